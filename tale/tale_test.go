package tale

import (
	"strings"
	"testing"

	"provost/api"
)

const schema = `schema type T @table(most: 2) { id: ID! n: Int e: E } enum E { A } type Query { t(id: ID!): T @get(of: "T") } type Mutation { m(id: ID!, n: Int @range(min: 0), e: E): T @create(of: "T") u(id: ID!, n: Int): T @update(of: "T", add: ["n"]) }`

// hold holds a day, given as lines and what they tell in turn. Its beginnings tell the beginnings (P32.2).
func hold(t *testing.T, l ...string) {
	t.Helper()
	day, want := "", ""
	for i := 0; i < len(l); i += 2 {
		day += l[i] + "\n"
		want += l[i+1] + "\n"
		if got := Tell(day); got != want {
			t.Errorf("%.200s\n got %.300q\nwant %.300q", day, got, want)
		}
		if got := Tell(strings.TrimSuffix(day, "\n")); got != want {
			t.Errorf("%.200s %.300q", day, got)
		}
	}
}

// The examples of the chapter, and of the whole.
func TestExamples(t *testing.T) {
	hold(t, "match a* aaa", "yes", "match a* b", "no", "match ( x", "?")
	hold(t, "read Decimal 1.50", "1.5", "read Int 1", "?", "read DateTime 2000-01-01T00:00:00+00:00", "2000-01-01T00:00:00Z")
	hold(t, "schema x", "no 180", "ask {}", "?")
	hold(t, `schema type T @table(most: 2) { id: ID! n: Int } type Query { t(id: ID!): T @get(of: "T") } type Mutation { m(id: ID!, n: Int): T @create(of: "T") }`, "ok", "do mutation { m(id: 1) { id } }", `{"data":{"m":{"id":"1"}}}`, "rows T", `[{"id":"1","n":null}]`, "rows U", "?")
	hold(t, schema, "ok", "do { t(id: 1) { id } }", `{"data":{"t":null}}`, "do mutation { m(id: 1, n: 3) { id n } }", `{"data":{"m":{"id":"1","n":3}}}`, "do mutation { m(id: 1) { id } u(id: 1, n: 4) { n } }", `{"errors":[{"code":"DUPLICATE","path":["m"]}],"data":{"m":null,"u":{"n":7}}}`,
		"do mutation { m(id: 2, n: -1) { id } u(id: 1, n: 4) { n } }", `{"errors":[{"code":"RANGE","path":["m","n"],"directive":"range"}]}`, "rows T", `[{"id":"1","n":7,"e":null}]`, "do { t(id: 1) { n ...F } } fragment F on T { k: __typename }", `{"data":{"t":{"n":7,"k":"T"}}}`, "do { t(id: 1) }", `{"errors":[{"code":"BAD_DOCUMENT","rule":5}]}`,
		`ask {"query":"query ($i: ID!) { t(id: $i) { id } }"}`, `{"errors":[{"code":"BAD_VALUE","path":["i"]}]}`, "do mutation { m(id: 2, e: A) { e } }", `{"data":{"m":{"e":"A"}}}`, "rows T", `[{"id":"1","n":7,"e":null},{"id":"2","n":null,"e":"A"}]`, "ask 1", `{"errors":[{"code":"BAD_REQUEST"}]}`, "schema ?", "no 170", "rows T", `[{"id":"1","n":7,"e":null},{"id":"2","n":null,"e":"A"}]`, schema, "ok", "rows T", "[]")
	hold(t, "match (a|b)*abb ababb", "yes", "read URL HTTP://A.b/%7e", "http://a.b/~")
	hold(t, "schema type Query { x: Int }", "no 230", "schema type Query { x: Y }", "no 6")
}

// P32.1: what is not done, and the edges of words.
func TestUnknown(t *testing.T) {
	hold(t, "x y", "?", "match", "?", "read", "?", "schema", "?", "ask", "?", " match a a", "?", "Match a a", "?", "match\ta a", "?", "do { x }", "?", "rows T", "?", "ask {}", "?", "rows ", "?")
	hold(t, "match ", "yes", "match a*", "yes", "match a", "no", "match  a", "no", "match a  a", "no", "match [a\\ ] a", "?", "match a\\u000020 a ", "yes", "match .* a b", "yes", "match (a|b)*a(a|b){5} a", "?", "match . \u20ac", "yes", "match . \xff", "?", "match \xff a", "?", "match a* "+strings.Repeat("a", 1024), "yes", "match a* "+strings.Repeat("a", 1025), "?")
	hold(t, "match .* "+strings.Repeat("\u20ac", 1024), "yes", "match a \xff", "?")
	hold(t, "read String", "", "read String ", "", "read String a b ", "a b ", "read ID", "?", "read ID 7", "7", "read Boolean true", "?", "read X a", "?", "read  a", "?", "read UUID 0123ABCD-4567-89ef-0000-0000000000ff", "0123abcd-4567-89ef-0000-0000000000ff", "read String \xff", "?", "read Decimal 01", "?", "read String a\r", "a\r")
	hold(t, schema, "ok", "do \xff", "?", "ask \xff", `{"errors":[{"code":"BAD_UTF8"}]}`, "do ", `{"errors":[{"code":"BAD_SYNTAX","line":1,"column":1}]}`, "rows t", "?", "rows T ", "?", "do { t(id: \"\u20ac\\u0000\") { id } } # \"x\\", `{"data":{"t":null}}`)
}

// P32.1, P32.2: empty lines, and long days.
func TestDays(t *testing.T) {
	for day, want := range map[string]string{
		"": "", "\n\n": "", "\n\nx\n\n\ny": "?\n?\n", "\r": "?\n", strings.Repeat("x\n\n", 32): strings.Repeat("?\n", 32), strings.Repeat("x\n", 33): "long\n", strings.Repeat("x\n", 32) + "y": "long\n", strings.Repeat("\n", api.MaxDay): "", strings.Repeat("\n", api.MaxDay+1): "long\n", "match a* " + strings.Repeat("a", 4096): "long\n",
	} {
		if got := Tell(day); got != want {
			t.Errorf("%.20q %q", day, got)
		}
	}
}

// V5: what match tells does not hang on the server.
func TestMatchAlone(t *testing.T) {
	hold(t, "match a* aa", "yes", schema, "ok", "match a* aa", "yes", "do mutation { m(id: 1) { id } }", `{"data":{"m":{"id":"1"}}}`, "match a* aa", "yes")
}
