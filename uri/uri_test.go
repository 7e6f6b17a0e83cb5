package uri

import (
	"math/rand"
	"strings"
	"testing"

	"narthex/api"
)

func TestP21_1Parse(t *testing.T) {
	rows := []struct {
		id string
		u  URI
		e  api.Errno
	}{
		{"HTTP://A.b/x/%2e%2E/y%2f", URI{"http", "a.b", "/y%2F"}, api.OK}, {"a://b", URI{"a", "b", "/"}, api.OK}, {"AZaz09://AZaz09/AZaz09", URI{"azaz09", "azaz09", "/AZaz09"}, api.OK}, {"a://b/%41%5A%5a%61%7A%30%39%40%5B%60%7B%2F%3A", URI{"a", "b", "/AZZaz09%40%5B%60%7B%2F%3A"}, api.OK}, {"a1+-.://b-.:8/", URI{"a1+-.", "b-.:8", "/"}, api.OK}, {"a://1//", URI{"a", "1", "//"}, api.OK}, {"a://b/%41%7e%5f%2D%30", URI{"a", "b", "/A~_-0"}, api.OK}, {"a://b/%c3%a4%00%25%20", URI{"a", "b", "/%C3%A4%00%25%20"}, api.OK},
		{"a://b/-._~!$&'()*+,;=:@/", URI{"a", "b", "/-._~!$&'()*+,;=:@/"}, api.OK}, {"A://B/C", URI{"a", "b", "/C"}, api.OK}, {"a://b/x://y", URI{"a", "b", "/x://y"}, api.OK}, {"a://b/%2fc/..", URI{"a", "b", "/"}, api.OK},
		{"x", URI{}, api.ErrForm}, {"", URI{}, api.ErrForm}, {"://b", URI{}, api.ErrForm}, {"1a://b", URI{}, api.ErrForm}, {"+://b", URI{}, api.ErrForm}, {"a_://b", URI{}, api.ErrForm}, {"a:/b", URI{}, api.ErrForm}, {"a://", URI{}, api.ErrForm}, {"a:///b", URI{}, api.ErrForm}, {"a://b c", URI{}, api.ErrForm}, {"a://u@b", URI{}, api.ErrForm}, {"a://b_c", URI{}, api.ErrForm},
		{"a://b?q", URI{}, api.ErrForm}, {"a://b/?q", URI{}, api.ErrForm}, {"a://b/#f", URI{}, api.ErrForm}, {"a://b/ ", URI{}, api.ErrForm}, {"a://b/\\", URI{}, api.ErrForm}, {"a://b/ä", URI{}, api.ErrForm}, {"a://ä/", URI{}, api.ErrForm}, {"a://b/%", URI{}, api.ErrForm}, {"a://b/%4", URI{}, api.ErrForm}, {"a://b/%4g", URI{}, api.ErrForm}, {"a://b/%%41", URI{}, api.ErrForm}, {" a://b", URI{}, api.ErrForm}, {"a://b\n", URI{}, api.ErrForm}, {"\u212A://b", URI{}, api.ErrForm},
		{"a://b/" + strings.Repeat("c", 4090), URI{"a", "b", "/" + strings.Repeat("c", 4090)}, api.OK}, {"a://b/" + strings.Repeat("c", 4091), URI{}, api.ErrBig}, {strings.Repeat(" ", 4097), URI{}, api.ErrBig},
	}
	for _, x := range rows {
		u, e := Parse(x.id)
		if u != x.u || e != x.e {
			t.Errorf("%.40q: %.60v %d", x.id, u, e)
		}
		n, e := Norm(x.id)
		if want := Text(x.u); e != x.e || e == api.OK && n != want || e != api.OK && n != "" {
			t.Errorf("Norm %.40q: %.40q %d", x.id, n, e)
		}
	}
}

func TestP21_2Dots(t *testing.T) {
	rows := [][2]string{
		{"", "/"}, {"/", "/"}, {".", "/"}, {"..", "/"}, {"/.", "/"}, {"/..", "/"}, {"/../..", "/"}, {"/a", "/a"}, {"a", "/a"}, {"/a/", "/a/"}, {"/a/.", "/a/"}, {"/a/..", "/"}, {"/a/b/..", "/a/"}, {"/a/../b", "/b"}, {"/a/./b", "/a/b"}, {"//", "//"}, {"/a//..", "/a/"}, {"/a//../..", "/"}, {"//..", "/"}, {"//../x", "/x"},
		{"/a/b/../../../c", "/c"}, {"/...", "/..."}, {"/.a/..b", "/.a/..b"}, {"/a/../", "/"}, {"/./", "/"}, {"/a/b/../c/../d", "/a/d"}, {"/\xFF?/..", "/"}, {"//a", "//a"},
	}
	for _, x := range rows {
		if got := Dots(x[0]); got != x[1] {
			t.Errorf("%q: %q, and not %q", x[0], got, x[1])
		}
	}
}

func TestP21_3Text(t *testing.T) {
	if Text(URI{"A", "b?", "c"}) != "A://b?c" || Text(URI{}) != "://" {
		t.Error("Text")
	}
}

func TestP21_4NormOfNorm(t *testing.T) {
	r := rand.New(rand.NewSource(21))
	bits := []string{"/", "/", ".", "..", "%2e", "%2E", "%2f", "a", "%41", "~", "%7E", "%25", "%2541", "*"}
	for range 20000 {
		id := "Ab://C"
		if r.Intn(9) > 0 {
			id += "/"
			for range r.Intn(9) {
				id += bits[r.Intn(len(bits))]
			}
		}
		n, e := Norm(id)
		if e != api.OK {
			t.Fatal(id, e)
		}
		if again, e := Norm(n); again != n || e != api.OK {
			t.Fatal(id, n, again)
		}
		for _, part := range strings.Split(strings.TrimPrefix(n, "ab://c"), "/") {
			if part == "." || part == ".." {
				t.Fatal(id, n)
			}
		}
	}
}
