package load

import (
	"bytes"
	"strings"
	"testing"

	"narthex/api"
)

const bom = "\xEF\xBB\xBF"

func TestP25_1IsAndMark(t *testing.T) {
	full := strings.Repeat("a", api.MaxText)
	rows := []struct {
		b        string
		is, mark bool
	}{
		{"", true, false}, {"ä\n\t x", true, false}, {"a\r", false, false}, {"\xFF", false, false}, {"\x00", false, false}, {"\uFFFE", false, false}, {bom, true, true}, {bom + "x", true, true}, {"\xEF\xBB", false, false}, {"x" + bom, true, false}, {full, true, false}, {full + "a", false, false},
	}
	for _, x := range rows {
		if Is([]byte(x.b)) != x.is || Mark([]byte(x.b)) != x.mark {
			t.Errorf("%.20q", x.b)
		}
	}
}

func TestP25_2Doc(t *testing.T) {
	full := strings.Repeat("a", api.MaxText)
	rows := []struct {
		b, want string
		e       api.Errno
	}{
		{"", "", api.OK}, {"a\r\n", "a\n", api.OK}, {bom + "a\rb", "a\nb", api.OK}, {bom + bom, bom, api.OK}, {"a" + bom, "a" + bom, api.OK}, {full, full, api.OK},
		{full + "a", "", api.ErrLimit}, {bom + full, "", api.ErrLimit}, {full + "\xFF", "", api.ErrLimit}, {"\x00\xFF", "", api.ErrUtf}, {"\x00", "", api.ErrChar}, {"a\uFFFF", "", api.ErrChar}, {"\xED\xA0\x80", "", api.ErrUtf},
	}
	for _, x := range rows {
		in := []byte(x.b)
		got, e := Doc(in)
		if string(got) != x.want || e != x.e || string(in) != x.b {
			t.Errorf("%.20q: %.20q %d", x.b, got, e)
		}
		if len(got) > 0 {
			got[0] = 'X'
		}
		if string(in) != x.b {
			t.Errorf("%.20q: shared memory", x.b)
		}
	}
}

func TestP25_2Text(t *testing.T) {
	rows := []struct {
		b, want string
		e       api.Errno
	}{
		{`<?xml encoding="utf-8"?>x`, "x", api.OK}, {bom + "<?xml version='1.0' encoding='UTF-8'?>\r\nx", "\nx", api.OK}, {"x", "x", api.OK}, {"", "", api.OK}, {" <?xml ?>", " <?xml ?>", api.OK},
		{`<?xml version="1.0"?>x`, "", api.ErrForm}, {`<?xml encoding="latin1"?>`, "", api.ErrForm}, {"<?xml \xFF", "", api.ErrUtf}, {"<?xml \x01", "", api.ErrChar},
	}
	for _, x := range rows {
		if got, e := Text([]byte(x.b)); string(got) != x.want || e != x.e {
			t.Errorf("%q: %q %d", x.b, got, e)
		}
	}
}

func TestP25_3DocOfDoc(t *testing.T) {
	for _, s := range []string{"", "a\r\n\rb", bom + "x\r", "ä\n", bom + bom + "x"} {
		d, e := Doc([]byte(s))
		if e != api.OK || !Is(d) {
			t.Errorf("%q", s)
		}
		if again, e := Doc(d); !Mark(d) && (!bytes.Equal(d, again) || e != api.OK) {
			t.Errorf("%q", s)
		}
	}
}
