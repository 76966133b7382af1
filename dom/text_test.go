package dom_test

import (
	"slices"
	"strings"
	"testing"

	"jigsaw/api"
	"jigsaw/dom"
)

// P2.4: how ranges are written.
func TestText(t *testing.T) {
	for _, c := range []struct {
		l    []api.Range
		want string
	}{
		{nil, "{}"},
		{[]api.Range{}, "{}"},
		{ranges(r(0, 0)), "0"},
		{ranges(r(1, 2), r(5, 5)), "1..2,5"},
		{ranges(r(-3, -2), r(0, 0), r(7, 19)), "-3..-2,0,7..19"},
		{ranges(r(-maxBig, maxBig)), "-1000000..1000000"},
		{ranges(r(2, 1)), "{}"},
	} {
		if s := dom.Text(c.l); s != c.want {
			t.Error("Text", s, c.want)
		}
	}
}

// P2.4: what is not what Text writes is no text of ranges.
func TestParseWrong(t *testing.T) {
	for _, s := range []string{
		"", " ", "{", "{}{}", "{},1", "1,{}", "{1}", "1..1", "1,2", "1..3,4", "2,1", "5..6,1..2", "2..1", "1,1",
		"01", "-0", "+1", "00", "-01", "1..02", "1_0", "0x1", "1e3", "1.5", "1.2", "1...2", "1..", "..1", "..", "1..2..3",
		",", "1,", ",1", "1,,3", " 1", "1 ", "1, 3", "1 ..2", "1;3", "1\n", "\x00", "\xff", "é", "１", "1..2\x00", "--1", "-",
		"1000001", "-1000001", "0..1000001", "-1000001..0", "9223372036854775807", "-9223372036854775808", "9223372036854775808",
		"99999999999999999999999", "0..99999999999999999999999", "9223372036854775807,-9223372036854775808",
		strings.Repeat(",", api.MaxText), strings.Repeat("1", api.MaxText), strings.Repeat("..", api.MaxText/2),
	} {
		l, e := dom.Parse(s)
		alikeErr(t, "Parse of "+s[:min(len(s), 30)], l, e, nil, api.ErrDom)
	}
}

// P2.4: a text that is too long, whatever it is; and more ranges than there may be.
func TestParseAtTheLimits(t *testing.T) {
	for _, s := range []string{strings.Repeat("1", api.MaxText+1), strings.Repeat("\xff", api.MaxText+1), "1..2" + strings.Repeat(" ", api.MaxText)} {
		l, e := dom.Parse(s)
		alikeErr(t, "Parse of what is too long", l, e, nil, api.ErrSize)
	}
	full := comb(api.MaxRanges, 0)
	s := dom.Text(full)
	l, e := dom.Parse(s)
	alikeErr(t, "Parse at the limit", l, e, full, api.OK)
	l, e = dom.Parse(s + ",9000")
	alikeErr(t, "Parse beyond the limit", l, e, nil, api.ErrDom)
}

// long is right ranges whose text has size bytes: many parts of 17 bytes with their comma, and then, with a comma ahead, parts of 2 and of 3 bytes for the 2 to 18 that are left.
func long(size int) []api.Range {
	n := (size - 1) / 17
	var out []api.Range
	for i := range int64(n) {
		out = append(out, r(3*i-999000, 3*i-998999))
	}
	left := size + 1 - 17*n
	for v := int64(1); left%3 != 0; v += 2 {
		out = append(out, r(v, v))
		left -= 2
	}
	for v := int64(10); left > 0; v += 2 {
		out = append(out, r(v, v))
		left -= 3
	}
	return out
}

// P2.4, P2.5: a text of just MaxText bytes, and of one more.
func TestParseLongTexts(t *testing.T) {
	l := long(api.MaxText)
	s := dom.Text(l)
	if len(s) != api.MaxText {
		t.Fatal(len(s))
	}
	got, e := dom.Parse(s)
	alikeErr(t, "Parse of MaxText bytes", got, e, l, api.OK)
	l = long(api.MaxText + 1)
	s = dom.Text(l)
	if len(s) != api.MaxText+1 || !dom.Right(l) {
		t.Fatal(len(s))
	}
	got, e = dom.Parse(s)
	alikeErr(t, "Parse of MaxText bytes and one", got, e, nil, api.ErrSize)
}

// P2.5, P7: ranges are read again as they were written.
func TestParseOfText(t *testing.T) {
	for _, l := range slices.Concat(rights(), small(-4), small(maxBig-7), small(-maxBig)) {
		s := dom.Text(l)
		if len(s) > api.MaxText {
			continue
		}
		got, e := dom.Parse(s)
		alikeErr(t, "Parse of Text", got, e, l, api.OK)
	}
}

// P2.5, P1: of any text Parse answers an error, or ranges that are written as that text.
func FuzzParse(f *testing.F) {
	for _, s := range []string{"{}", "1..2,5", "-3..-1,1..3", "1,,2", "-1000000..1000000", "01", "1..1"} {
		f.Add(s)
	}
	f.Fuzz(func(t *testing.T, s string) {
		l, e := dom.Parse(s)
		switch e {
		case api.OK:
			if !dom.Right(l) || dom.Text(l) != s {
				t.Errorf("Parse(%q) = %v", s, l)
			}
		case api.ErrDom:
			if len(l) != 0 || len(s) > api.MaxText {
				t.Errorf("Parse(%q) = %v, ErrDom", s, l)
			}
		default:
			if e != api.ErrSize || len(l) != 0 || len(s) <= api.MaxText {
				t.Errorf("Parse(%q) = %v, %d", s, l, e)
			}
		}
	})
}
