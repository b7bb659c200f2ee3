package serve

import (
	"strings"

	"provost/api"
	"provost/json"
	"provost/whole"
)

// quote is a text as JSON, of any size; of what is no text the empty one. It goes piece by piece, as json.Quote takes no more than MaxBytes at once.
func quote(s string) string {
	var out strings.Builder
	out.WriteByte('"')
	for s != "" {
		n := piece(s)
		quoted, e := json.Quote(s[:n])
		if e != api.OK {
			return `""`
		}
		out.WriteString(quoted[1 : len(quoted)-1])
		s = s[n:]
	}
	out.WriteByte('"')
	return out.String()
}

// piece is how many bytes of s are quoted at once: no more than MaxBytes, and of a text no part of a code point, as that would be no text.
func piece(s string) int {
	if len(s) <= api.MaxBytes {
		return len(s)
	}
	n := api.MaxBytes
	for n > api.MaxBytes-3 && s[n]&0xc0 == 0x80 {
		n--
	}
	return n
}

// member is a name and its JSON.
func member(name, value string) string {
	return quote(name) + ":" + value
}

// Write is the text of a response of data and errors.
func Write(data []api.Cell, faults []api.Fault) string {
	var members []string
	if len(faults) > 0 {
		var errors []string
		for _, f := range faults {
			errors = append(errors, faultText(f))
		}
		members = append(members, member("errors", "["+strings.Join(errors, ",")+"]"))
	}
	if len(data) > 0 {
		members = append(members, member("data", dataText(data)))
	}
	return "{" + strings.Join(members, ",") + "}"
}

// faultText is the JSON of an error: of what is told of it.
func faultText(f api.Fault) string {
	members := []string{member("code", quote(f.Code))}
	put := func(is bool, name, value string) {
		if is {
			members = append(members, member(name, value))
		}
	}
	number := func(n int) string { return whole.Write(int64(n)) }
	put(len(f.Path) > 0, "path", pathText(f.Path))
	put(f.Dir != "", "directive", quote(f.Dir))
	put(f.Rule != 0, "rule", number(f.Rule))
	put(f.Line != 0, "line", number(f.Line))
	put(f.Line != 0, "column", number(f.Col))
	return "{" + strings.Join(members, ",") + "}"
}

// pathText is the JSON of a path.
func pathText(path []api.Step) string {
	var steps []string
	for _, s := range path {
		if s.Name == "" {
			steps = append(steps, whole.Write(int64(s.At)))
		} else {
			steps = append(steps, quote(s.Name))
		}
	}
	return "[" + strings.Join(steps, ",") + "]"
}

// dataText is the JSON of the first value of some cells, be they a value or not.
func dataText(v []api.Cell) string {
	var out strings.Builder
	at := 0
	var value func()
	// all writes as many items or members as are told, or as there are cells.
	all := func(many int, open, shut string, named bool) {
		out.WriteString(open)
		for i := 0; i < many && at < len(v); i++ {
			if i > 0 {
				out.WriteByte(',')
			}
			if named {
				out.WriteString(quote(v[at].Name) + ":")
			}
			value()
		}
		out.WriteString(shut)
	}
	value = func() {
		c := v[at]
		at++
		switch c.Kind {
		case api.Bool:
			if c.Int == 0 {
				out.WriteString("false")
			} else {
				out.WriteString("true")
			}
		case api.Int:
			out.WriteString(whole.Write(c.Int))
		case api.Text, api.Enum:
			out.WriteString(quote(c.Text))
		case api.List:
			all(c.Many, "[", "]", false)
		case api.Object:
			all(c.Many, "{", "}", true)
		default:
			out.WriteString("null")
		}
	}
	value()
	return out.String()
}
