package desk

import (
	"slices"
	"strconv"
	"strings"
	"testing"

	"covey/api"
	"covey/hash"
	"covey/meta"
)

// do does lines, each followed by what it must tell; empty texts are not asked.
func doAll(t *testing.T, d *Desk, l ...string) {
	t.Helper()
	for i := 0; i < len(l); i += 2 {
		got, e := d.Do(l[i])
		if e != api.OK || l[i+1] != "" && got != l[i+1] {
			t.Errorf("%s: %q %d, not %q", l[i], got, e, l[i+1])
		}
	}
}

// script is a session of some kinds of lines.
func script() []string {
	return []string{
		"file 20 a", "file 40 b/c", "guest old no 1 0 -", "make both 16 x", "name", "magnet", "guest both yes 2 0 *", "guest old no 1 0 0-1", "guest new yes 3 2 -", "guest both yes 1 0 -", "begin seed 1", "had 0", "had 1", "had 2", "done", "pass 20", "cut 0 1", "fall 3", "pass 5",
		"had 3", "rise 3 claim", "heal 0 1", "pass 40", "had 1", "done", "read 1 b/c", "banned 0", "fall 1", "rise 1 check", "read 1 nope", "pass 9", "done", "read 9 a",
	}
}

func TestP371Errors(t *testing.T) {
	var none *Desk
	if _, e := none.Do("x"); e != api.ErrInvalid || none.Book() != "" || none.Count() != 0 || none.Now() != 0 || none.Guests() != 0 {
		t.Error(e)
	}
	if _, e := none.Run(nil); e != api.ErrInvalid {
		t.Error(e)
	}
	for line, want := range map[string]bool{
		"": false, " ": false, "file 20 a": true, "file 20  a": false, " file 20 a": false, "file 20 a ": false, "file 20 a b": false, "file 20": false, "file 020 a": false, "file -1 a": false, "file 10000 a": true, "file 10001 a": false, "file x a": false, "file +1 a": false,
		"make old 16 n": true, "make older 16 n": false, "make both x n": false, "name": true, "name x": false, "magnet": true, "guest new yes 1 0 *": true, "guest new maybe 1 0 *": false, "guest new yes 1 0": false, "guest new no 1 0 abc": true, "begin s 0": true, "begin 0": false,
		"pass 1": true, "pass": false, "fall 0": true, "rise 0 claim": true, "rise 0 check": true, "rise 0": false, "rise 0 all": false, "cut 0 1": true, "cut 0": false, "heal 0 1": true, "had 0": true, "done": true, "done 0": false, "read 0 a/b": true, "banned 0": true, "other": false, "File 20 a": false,
		"file 20 \x7f": false, "file 20 \t": false, "file 20 " + strings.Repeat("x", 192): true, "file 20 " + strings.Repeat("x", 193): false, "file 20 a\n": false, "old new": false, "make old new 16 n": false,
	} {
		if Valid(line) != want {
			t.Error(line)
		}
		s, e := New().Do(line)
		if (e == api.OK) != want || e != api.OK && (e != api.ErrCommand || s != "") {
			t.Error(line, e)
		}
	}
	d := New()
	for k := range 400 {
		if s, e := d.Do("name"); s != "error 9" || e != api.OK || d.Count() != k+1 {
			t.Fatal(k, s, e)
		}
	}
	if s, e := d.Do("name"); s != "" || e != api.ErrLimit {
		t.Error(s, e)
	}
	if s, e := d.Do("x"); s != "" || e != api.ErrCommand {
		t.Error(s, e)
	}
	if l, torn, e := Lines(d.Book()); len(l) != 400 || torn || e != api.OK {
		t.Error(len(l), torn, e)
	}
	more := d.Book() + format(next(d.lines, "name")) + "\n"
	if _, _, e := Lines(more); e != api.ErrLimit {
		t.Error(e)
	}
	long := strings.Repeat("x", 200001)
	_, _, e1 := Lines(long)
	_, _, e2 := Replay(long)
	_, e3 := Parting(long, "")
	if e1 != api.ErrLong || e2 != e1 || e3 != e1 {
		t.Error(e1, e2, e3)
	}
}

func TestLines(t *testing.T) {
	d := New()
	doAll(t, d,
		"name", "error 9", "magnet", "error 9", "make both 16 x", "error 9", "guest new yes 1 0 *", "error 9", "begin s 0", "error 9", "pass 1", "error 9", "done", "error 9", "had 0", "error 9", "read 0 a", "error 9", "fall 0", "error 9", "rise 0 claim", "error 9", "cut 0 1", "error 9", "heal 0 1", "error 9", "banned 0", "error 9",
		"file 20 a", "files 1", "file 5 a/b", "error 1", "file 5 a", "error 1", "file 0 e", "files 2", "file 10 ..", "error 1", "make both 17 x", "error 1", "make both 16 a/b", "error 1", "make both 16 x", "pieces 2", "make both 16 x", "error 9", "file 3 z", "error 9",
		"begin s 0", "error 9", "guest both yes 0 0 *", "error 7", "guest both yes 21 0 *", "error 7", "guest both yes 1 0 2", "error 1", "guest both yes 1 0 abc", "error 1", "guest both yes 1 0 0-1", "guest 0", "guest both no 20 0 -", "guest 1",
		"begin s 11", "error 7", "begin "+strings.Repeat("s", 101)+" 0", "error 1", "pass 1", "error 9", "begin s 0", "begun", "begin s 0", "error 9", "guest both yes 1 0 *", "error 9", "had 0", "had 0-1", "had 1", "had -", "had 2", "error 7", "done", "done 0",
		"pass 30", "at 30", "had 1", "had 0-1", "done", "done 0 1", "fall 1", "down 1", "fall 1", "error 9", "had 1", "error 21", "done", "done 0", "rise 1 claim", "up 1 2", "rise 1 check", "error 9", "cut 0 0", "error 7", "cut 0 1", "cut", "cut 1 0", "error 9", "heal 0 1", "healed", "heal 0 1", "error 9",
		"read 1 b", "error 8", "banned 0", "banned", "pass 0", "at 30")
	want, _ := hash.Stream("a", 0, 20)
	doAll(t, d, "read 1 a", "read "+hash.Hex(hash.Old(want)), "read 0 e", "read "+hash.Hex(hash.Old("")))
	m, _ := meta.Make("x", api.VBoth, 16, false, []api.File{{Path: []string{"a"}, Length: 20}, {Path: []string{"e"}}}, []string{want, ""})
	old, fresh, short, _ := meta.Names(m.Info)
	doAll(t, d, "name", "name "+hash.Hex(short), "magnet", "magnet:?xt=urn:cvo:"+hash.Hex(old)+"&xt=urn:cvn:"+hash.Hex(fresh)+"&dn=x")
	if d.Now() != 30 || d.Guests() != 2 {
		t.Error(d.Now(), d.Guests())
	}
	x := New()
	doAll(t, x, "file 20 a", "files 1", "make new 16 x", "pieces 2")
	for k := range 8 {
		doAll(t, x, "guest new no 2 0 "+[]string{"*", "-"}[min(k, 1)], "guest "+strconv.Itoa(k))
	}
	doAll(t, x, "guest new no 1 0 -", "error 1", "begin z 2", "begun", "pass 120", "at 120", "done", "done 0 1 2 3 4 5 6 7")
	liar := New()
	doAll(t, liar, "file 100 a", "files 1", "make old 32 x", "pieces 4", "guest new yes 1 0 -", "error 1", "guest old yes 1 1 *", "guest 0", "guest old yes 1 0 -", "guest 1", "begin z 0", "begun", "pass 60", "at 60", "banned 1", "banned 0", "banned 0", "banned", "done", "done 0")
}

// tells are what a session tells of further lines.
func tells(t *testing.T, d *Desk) string {
	t.Helper()
	l, e := d.Run([]string{"done", "had 0", "had 1", "had 2", "banned 0", "name", "magnet", "file 3 q", "pass 7", "read 0 a", "fall 0", "rise 0 check", "pass 3", "done"})
	if e != api.OK {
		t.Error(e)
	}
	return strings.Join(l, "\n") + strconv.Itoa(d.Now()) + strconv.Itoa(d.Guests())
}

func TestP372Book(t *testing.T) {
	d := New()
	d.Run(script())
	r, n, e := Replay(d.Book())
	if n != len(script()) || e != api.OK || r.Book() != d.Book() || r.Count() != d.Count() || r.Now() != d.Now() || r.Guests() != d.Guests() {
		t.Error(n, e)
	}
	if a, b := tells(t, d), tells(t, r); a != b {
		t.Error(a, b)
	}
	first := New()
	doAll(t, first, "file 20 a", "files 1", "make both 16 x", "pieces 2")
	s1 := hash.Hex(hash.Sum("0000000000000000 file 20 a")[:8])
	s2 := hash.Hex(hash.Sum(s1 + " make both 16 x")[:8])
	if first.Book() != "0 "+s1+" file 20 a\n1 "+s2+" make both 16 x\n" {
		t.Error(first.Book())
	}
}

func TestP373Beginnings(t *testing.T) {
	d := New()
	d.Run(script())
	book := d.Book()
	at := map[int]int{} // where lines end
	n := 0
	for i := range book {
		if book[i] == '\n' {
			n++
			at[i+1] = n
		}
	}
	whole := 0
	for cut := range len(book) + 1 {
		if k, ends := at[cut]; ends {
			whole = k
		}
		l, torn, e := Lines(book[:cut])
		_, ends := at[cut]
		if len(l) != whole || torn != (!ends && cut > 0) || e != api.OK {
			t.Fatal(cut, len(l), whole, torn, e)
		}
		if cut%97 != 0 {
			continue
		}
		r, n, e := Replay(book[:cut])
		then := New()
		then.Run(script()[:whole])
		if n != whole || e != api.OK || tells(t, r) != tells(t, then) {
			t.Error("replay", cut, n, e)
		}
	}
}

func TestP374Damage(t *testing.T) {
	d := New()
	d.Run(script())
	book := d.Book()
	line := 0
	for i := range book {
		for _, c := range []byte{' ', '0', 'z', '\n', book[i] ^ 1} {
			if c == book[i] {
				continue
			}
			l, torn, e := Lines(book[:i] + string([]byte{c}) + book[i+1:])
			if e != api.ErrSum && !torn || len(l) < line || len(l) > line+1 && e == api.ErrSum {
				t.Error(i, string(c), len(l), line, torn, e)
			}
			for k, x := range l[:min(line, len(l))] {
				if x != d.lines[k] {
					t.Error("the lines before are read", i, k)
				}
			}
		}
		if book[i] == '\n' {
			line++
		}
	}
	if _, n, e := Replay(strings.Replace(book, "file", "fime", 1)); n != 0 || e != api.ErrSum {
		t.Error(n, e)
	}
	other := New()
	other.Run(append(slices.Clone(script()[:9]), "pass 3", "done"))
	if n, e := Parting(book, other.Book()); n != 9 || e != api.OK {
		t.Error(n, e)
	}
	if n, e := Parting(book, book); n != d.Count() || e != api.OK {
		t.Error(n, e)
	}
	if n, e := Parting("x\n", strings.Repeat("x", 200001)); n != 0 || e != api.ErrSum {
		t.Error("a's first", e)
	}
}

func TestP375OneWay(t *testing.T) {
	a, b := New(), New()
	l, e := a.Run(script())
	for i, line := range script() {
		if s, _ := b.Do(line); s != l[i] {
			t.Error(line, s, l[i])
		}
	}
	if a.Book() != b.Book() || e != api.OK {
		t.Error(e)
	}
	l, e = New().Run([]string{"file 20 a", "name", "no line", "file 30 b"})
	if !slices.Equal(l, []string{"files 1", "error 9"}) || e != api.ErrCommand {
		t.Error(l, e)
	}
}
