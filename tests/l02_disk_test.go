package tests

import (
	"bytes"
	"fmt"
	"math"
	"math/rand"
	"slices"
	"strings"
	"testing"

	"loop.example/g00671/impl"
)

// shelf is a set of files by another way than the program's: a list of texts in the order of their names.
type shelf []book

type book struct{ name, text string }

func (s shelf) find(name string) int {
	return slices.IndexFunc(s, func(b book) bool { return b.name == name })
}

func (s shelf) without(name string) shelf {
	var out shelf
	for _, b := range s {
		if b.name != name {
			out = append(out, b)
		}
	}
	return out
}

func (s shelf) with(name, text string) shelf {
	out := append(s.without(name), book{name, text})
	slices.SortFunc(out, func(a, b book) int { return strings.Compare(a.name, b.name) })
	return out
}

func (s shelf) size() int {
	n := 0
	for _, b := range s {
		n += len(b.text)
	}
	return n
}

func (s shelf) after(o impl.FsOp) (shelf, bool) {
	at := s.find(o.Name)
	switch {
	case o.Kind == impl.FsCreate && (at >= 0 || len(s) < 12):
		return s.with(o.Name, ""), true
	case at < 0:
		return nil, false
	case o.Kind == impl.FsAppend:
		return s.with(o.Name, s[at].text+string(o.Data)), true
	case o.Kind == impl.FsRename && o.To != o.Name:
		return s.without(o.Name).with(o.To, s[at].text), true
	case o.Kind == impl.FsRemove:
		return s.without(o.Name), true
	}
	return nil, false
}

func (s shelf) files() []impl.File {
	var out []impl.File
	for _, b := range s {
		out = append(out, impl.File{Name: b.name, Data: []byte(b.text)})
	}
	return out
}

func shelfOf(l []impl.File) shelf {
	var out shelf
	for _, f := range l {
		out = append(out, book{f.Name, string(f.Data)})
	}
	return out
}

// wantSeen is the shelf after all operations of a disk that is known to be valid.
func wantSeen(d impl.Disk) shelf {
	s := shelfOf(d.Files)
	for _, o := range d.Wait {
		s, _ = s.after(o)
	}
	return s
}

func wantNameOk(s string) bool {
	return s != "" && len(s) <= 12 && strings.TrimLeft(s, "abcdefghijklmnopqrstuvwxyz0123456789.") == ""
}

func wantOpOk(o impl.FsOp) bool {
	renames, appends := o.Kind == impl.FsRename, o.Kind == impl.FsAppend
	return o.Kind >= 1 && o.Kind <= 4 && wantNameOk(o.Name) &&
		(renames && wantNameOk(o.To) || !renames && o.To == "") &&
		(appends && len(o.Data) > 0 && len(o.Data) <= 200000 || !appends && len(o.Data) == 0)
}

func wantDiskOk(d impl.Disk) bool {
	if d.Room < 0 || d.Room > 200000 || d.Fuse < -1 || d.Fuse > 2000 || len(d.Files) > 12 || len(d.Wait) > 60 {
		return false
	}
	for i, f := range d.Files {
		if !wantNameOk(f.Name) || i > 0 && strings.Compare(d.Files[i-1].Name, f.Name) >= 0 {
			return false
		}
	}
	s := shelfOf(d.Files)
	ok := s.size() <= d.Room
	for _, o := range d.Wait {
		if !ok || !wantOpOk(o) {
			return false
		}
		if s, ok = s.after(o); ok {
			ok = s.size() <= d.Room
		}
	}
	return ok
}

func sameFiles(a, b []impl.File) bool {
	return slices.EqualFunc(a, b, func(x, y impl.File) bool { return x.Name == y.Name && bytes.Equal(x.Data, y.Data) })
}

func sameOps(a, b []impl.FsOp) bool {
	return slices.EqualFunc(a, b, func(x, y impl.FsOp) bool {
		return x.Kind == y.Kind && x.Name == y.Name && x.To == y.To && bytes.Equal(x.Data, y.Data)
	})
}

func sameDisk(a, b impl.Disk) bool {
	return a.Room == b.Room && a.Fuse == b.Fuse && sameFiles(a.Files, b.Files) && sameOps(a.Wait, b.Wait)
}

// brief keeps a failure readable where a disk holds much.
func brief(x any) string {
	s := fmt.Sprintf("%+v", x)
	if len(s) > 400 {
		return s[:400] + ".."
	}
	return s
}

func wantDisk(t *testing.T, what string, got, want impl.Disk) {
	t.Helper()
	if !sameDisk(got, want) {
		t.Errorf("%s: %s, want %s", what, brief(got), brief(want))
	}
	if !impl.DiskOk(got) {
		t.Errorf("%s: %s is not valid", what, brief(got))
	}
}

func create(name string) impl.FsOp { return impl.FsOp{Kind: impl.FsCreate, Name: name} }

func appendTo(name, text string) impl.FsOp {
	return impl.FsOp{Kind: impl.FsAppend, Name: name, Data: []byte(text)}
}

func rename(name, to string) impl.FsOp {
	return impl.FsOp{Kind: impl.FsRename, Name: name, To: to}
}

func remove(name string) impl.FsOp { return impl.FsOp{Kind: impl.FsRemove, Name: name} }

// files makes files of pairs of a name and a text.
func files(pairs ...string) []impl.File {
	var out []impl.File
	for i := 0; i < len(pairs); i += 2 {
		out = append(out, impl.File{Name: pairs[i], Data: []byte(pairs[i+1])})
	}
	return out
}

func disk(room, fuse int, l []impl.File, wait ...impl.FsOp) impl.Disk {
	return impl.Disk{Room: room, Fuse: fuse, Files: l, Wait: wait}
}

func manyFiles(n int) []impl.File {
	var out []impl.File
	for i := range n {
		out = append(out, impl.File{Name: fmt.Sprintf("f%02d", i), Data: []byte{byte(i)}})
	}
	return out
}

// manyOps alternates so that any number of them is applicable to a disk without a file x.
func manyOps(n int) []impl.FsOp {
	var out []impl.FsOp
	for i := range n {
		if i%2 == 0 {
			out = append(out, create("x"))
		} else {
			out = append(out, remove("x"))
		}
	}
	return out
}

type namedDisk struct {
	what string
	d    impl.Disk
}

func goodDisks() []namedDisk {
	big := strings.Repeat("z", impl.MaxDisk)
	return []namedDisk{
		{"empty", disk(10, -1, nil)},
		{"the zero value", impl.Disk{}},
		{"empty slices", impl.Disk{Room: 5, Files: []impl.File{}, Wait: []impl.FsOp{}}},
		{"room 0, empty file", disk(0, -1, files("a", ""), create("b"), rename("a", "b"))},
		{"room MaxDisk, fuse MaxFuse", disk(impl.MaxDisk, impl.MaxFuse, files("a", "1"), appendTo("a", "2"))},
		{"a full disk of MaxDisk", disk(impl.MaxDisk, -1, files("a", big), remove("a"), create("b"), appendTo("b", big))},
		{"fuse 0", disk(10, 0, files("a", "1"), appendTo("a", "2"))},
		{"fuse 1", disk(10, 1, files("a", "1"), appendTo("a", "2"))},
		{"full", disk(6, -1, files("a", "12", "b", "345"), appendTo("b", "6"))},
		{"full, then free", disk(4, -1, files("a", "1234"), create("a"), appendTo("a", "x"))},
		{"MaxFiles files", disk(50, -1, manyFiles(12), create("f03"), rename("f00", "f01"), create("g"))},
		{"MaxFiles files, some created", disk(50, -1, manyFiles(11), create("x"), remove("f04"), create("y"), rename("y", "a"))},
		{"MaxWait operations", disk(50, -1, manyFiles(3), manyOps(60)...)},
		{"the longest name", disk(5, -1, files("abcdefghij.9", "1"), rename("abcdefghij.9", "............"))},
		{"a rename chain", disk(20, -1, files("a", "1", "b", "22", "c", "333"), rename("a", "d"), rename("b", "a"), rename("d", "b"), appendTo("b", "x"), rename("c", "b"))},
		{"names that begin alike", disk(9, -1, files(".", "", "0", "1", "a", "2", "a.", "3", "a0", "4", "aa", "5"))},
		{"appends", disk(30, 7, files("log", "ab"), appendTo("log", "cde"), create("v.1"), appendTo("v.1", "fghi"), remove("log"), appendTo("v.1", "j"))},
	}
}

func badDisks() []namedDisk {
	return []namedDisk{
		{"room -1", disk(-1, -1, nil)},
		{"least room", disk(math.MinInt, -1, nil)},
		{"room above MaxDisk", disk(200001, -1, nil)},
		{"greatest room", disk(math.MaxInt, -1, nil)},
		{"fuse -2", disk(10, -2, nil)},
		{"least fuse", disk(10, math.MinInt, nil)},
		{"fuse above MaxFuse", disk(10, 2001, nil)},
		{"greatest fuse", disk(10, math.MaxInt, nil)},
		{"13 files", disk(50, -1, manyFiles(13))},
		{"13 files, one removed", disk(50, -1, manyFiles(13), remove("f00"))},
		{"equal names", disk(10, -1, files("a", "", "a", ""))},
		{"equal names behind another", disk(10, -1, files("a", "", "b", "1", "b", "2"))},
		{"descending names", disk(10, -1, files("b", "", "a", ""))},
		{"descending names at the end", disk(10, -1, files("a", "", "c", "", "b", ""))},
		{"a longer name before its beginning", disk(10, -1, files("ab", "", "a", ""))},
		{"an empty name", disk(10, -1, files("", "1"))},
		{"a name with a capital letter", disk(10, -1, files("A", "1"))},
		{"a name that is too long", disk(10, -1, files("abcdefghijklm", "1"))},
		{"a bad name behind a good one", disk(10, -1, files("a", "1", "b_", "1"))},
		{"61 operations", disk(50, -1, nil, manyOps(61)...)},
		{"an operation of no kind", disk(10, -1, files("a", "1"), impl.FsOp{Name: "a"})},
		{"an append without bytes", disk(10, -1, files("a", "1"), appendTo("a", ""))},
		{"a create with bytes", disk(10, -1, nil, impl.FsOp{Kind: impl.FsCreate, Name: "a", Data: []byte("1")})},
		{"a remove with a To", disk(10, -1, files("a", "1"), impl.FsOp{Kind: impl.FsRemove, Name: "a", To: "b"})},
		{"an append to no file", disk(10, -1, nil, appendTo("a", "1"))},
		{"a remove of no file", disk(10, -1, files("b", ""), remove("a"))},
		{"a rename of no file", disk(10, -1, files("b", ""), rename("a", "b"))},
		{"a rename onto itself", disk(10, -1, files("a", ""), rename("a", "a"))},
		{"a create of a file too many", disk(50, -1, manyFiles(12), create("x"))},
		{"a later create of a file too many", disk(50, -1, manyFiles(11), create("x"), create("y"))},
		{"a second remove", disk(10, -1, files("a", "1"), remove("a"), remove("a"))},
		{"an append to a renamed file", disk(10, -1, files("a", "1"), rename("a", "b"), appendTo("a", "2"))},
		{"files above room", disk(2, -1, files("a", "12", "b", "3"))},
		{"a file in room 0", disk(0, -1, files("a", "1"))},
		{"files above room, removed", disk(2, -1, files("a", "123"), remove("a"))},
		{"an append above room", disk(5, -1, files("a", "123"), appendTo("a", "456"))},
		{"an append above room, removed", disk(5, -1, files("a", "123"), appendTo("a", "456"), remove("a"))},
		{"an append above room beside others", disk(5, -1, files("a", "12", "b", "34"), create("c"), appendTo("c", "56"), create("a"))},
		{"a bad operation behind good ones", disk(9, -1, files("a", "12"), appendTo("a", "3"), create("b"), rename("b", "B"))},
	}
}

type namedOp struct {
	what string
	o    impl.FsOp
}

func badOps() []namedOp {
	long := make([]byte, impl.MaxDisk+1)
	bad := []namedOp{
		{"the zero value", impl.FsOp{}},
		{"an append without bytes", impl.FsOp{Kind: impl.FsAppend, Name: "a"}},
		{"an append of an empty slice", impl.FsOp{Kind: impl.FsAppend, Name: "a", Data: []byte{}}},
		{"an append of too many bytes", impl.FsOp{Kind: impl.FsAppend, Name: "a", Data: long}},
		{"an append with a To", impl.FsOp{Kind: impl.FsAppend, Name: "a", To: "b", Data: []byte("1")}},
		{"a create with a To", impl.FsOp{Kind: impl.FsCreate, Name: "a", To: "b"}},
		{"a create with bytes", impl.FsOp{Kind: impl.FsCreate, Name: "a", Data: []byte{0}}},
		{"a remove with a To", impl.FsOp{Kind: impl.FsRemove, Name: "a", To: "b"}},
		{"a remove with bytes", impl.FsOp{Kind: impl.FsRemove, Name: "a", Data: []byte("1")}},
		{"a rename without a To", impl.FsOp{Kind: impl.FsRename, Name: "a"}},
		{"a rename to a bad name", rename("a", "B")},
		{"a rename to a long name", rename("a", "abcdefghijklm")},
		{"a rename with bytes", impl.FsOp{Kind: impl.FsRename, Name: "a", To: "b", Data: []byte("1")}},
	}
	for _, kind := range []int{0, -1, 5, 6, 256 + 1, 1<<32 + 2, math.MinInt, math.MaxInt} {
		bad = append(bad, namedOp{fmt.Sprint("the kind ", kind), impl.FsOp{Kind: kind, Name: "a"}})
	}
	for _, name := range []string{"", "A", "a b", "abcdefghijklm", "a/b", "\u00e9", "a\x00"} {
		for _, o := range []impl.FsOp{create(name), appendTo(name, "1"), rename(name, "b"), remove(name)} {
			bad = append(bad, namedOp{fmt.Sprintf("the kind %d of the name %q", o.Kind, name), o})
		}
	}
	return bad
}

// tryOps are valid operations, of which some suit each of the good disks and some do not.
func tryOps() []impl.FsOp {
	var out []impl.FsOp
	for _, name := range []string{"a", "b", "f03", "x", "log", "new.1"} {
		out = append(out, create(name), remove(name), appendTo(name, "1"), appendTo(name, "12345"), appendTo(name, strings.Repeat("y", 60)))
		for _, to := range []string{"a", "b", "f03", "zz"} {
			out = append(out, rename(name, to))
		}
	}
	return out
}

func TestDiskConstants(t *testing.T) {
	got := []int{impl.MaxDisk, impl.MaxFiles, impl.MaxWait, impl.MaxFuse, impl.MaxName, impl.FsCreate, impl.FsAppend, impl.FsRename, impl.FsRemove}
	if !slices.Equal(got, []int{200000, 12, 60, 2000, 12, 1, 2, 3, 4}) {
		t.Errorf("constants %v", got)
	}
}

func TestNameOk(t *testing.T) {
	for _, s := range []string{"a", "z", "0", "9", ".", "log", "log.new", "v.1000000", "..", "0a.z9", "abcdefghijkl"} {
		if !impl.NameOk(s) {
			t.Errorf("%q is a name", s)
		}
	}
	for _, s := range []string{"", "A", "Z", "a b", " ", "a ", "a\n", "abcdefghijklm", strings.Repeat("a", 1000), "a/b", "a-b", "a_b", "`", "{", ":", "\u00e9", "a\u0130", "\uff41", "\xff", "abcdefghijk\u00e9"} {
		if impl.NameOk(s) {
			t.Errorf("%q is not a name", s)
		}
	}
	for x := range 256 {
		for _, s := range []string{string([]byte{byte(x)}), string([]byte{'a', byte(x)}), string([]byte{byte(x), '.'}), string([]byte{'0', byte(x), 'z'}), "abcdefghijk" + string([]byte{byte(x)})} {
			if want := wantNameOk(s); impl.NameOk(s) != want {
				t.Errorf("NameOk(%q) is not %v", s, want)
			}
		}
	}
	for n := range 30 {
		if impl.NameOk(strings.Repeat("k", n)) != (n >= 1 && n <= 12) {
			t.Errorf("a name of %d bytes", n)
		}
	}
}

func TestFsOpOk(t *testing.T) {
	good := append(tryOps(), rename("a", "a"), create("abcdefghij.9"), rename("a", "abcdefghij.9"), appendTo("a", strings.Repeat("x", impl.MaxDisk)), appendTo("a", "\x00"),
		impl.FsOp{Kind: impl.FsCreate, Name: "a", Data: []byte{}}, impl.FsOp{Kind: impl.FsRename, Name: "a", To: "b", Data: []byte{}}, impl.FsOp{Kind: impl.FsRemove, Name: "a", Data: []byte{}})
	for _, o := range good {
		if !impl.FsOpOk(o) {
			t.Errorf("%s is not right", brief(o))
		}
	}
	for _, c := range badOps() {
		if impl.FsOpOk(c.o) {
			t.Errorf("%s is right", c.what)
		}
	}
	for kind := -2; kind < 8; kind++ {
		for _, name := range []string{"a", "", "A"} {
			for _, to := range []string{"", "b", "B", "abcdefghijklm"} {
				for _, size := range []int{0, 1, 2, impl.MaxDisk, impl.MaxDisk + 1} {
					o := impl.FsOp{Kind: kind, Name: name, To: to, Data: make([]byte, size)}
					if impl.FsOpOk(o) != wantOpOk(o) {
						t.Errorf("kind %d, name %q, to %q, %d bytes: not %v", kind, name, to, size, wantOpOk(o))
					}
				}
			}
		}
	}
}

func TestDiskOk(t *testing.T) {
	for _, c := range goodDisks() {
		if !impl.DiskOk(c.d) || !wantDiskOk(c.d) {
			t.Errorf("%s: not valid", c.what)
		}
	}
	for _, c := range badDisks() {
		if impl.DiskOk(c.d) || wantDiskOk(c.d) {
			t.Errorf("%s: valid", c.what)
		}
	}
	for _, c := range badOps() {
		if impl.DiskOk(disk(impl.MaxDisk, -1, files("a", "1"), c.o)) {
			t.Errorf("valid with %s waiting", c.what)
		}
	}
}

func TestInvalidDisksGiveZeroValues(t *testing.T) {
	for _, c := range badDisks() {
		if l := impl.Seen(c.d); l != nil {
			t.Errorf("%s: Seen %s", c.what, brief(l))
		}
		for _, name := range []string{"a", "b", "", "A", "f00", "x"} {
			if b, ok := impl.DiskRead(c.d, name); ok || b != nil {
				t.Errorf("%s: DiskRead %q, %v", c.what, b, ok)
			}
			if d, ok := impl.DiskBend(c.d, name, 0, 1); ok || !sameDisk(d, impl.Disk{}) {
				t.Errorf("%s: DiskBend %s, %v", c.what, brief(d), ok)
			}
		}
		for _, o := range append(tryOps(), impl.FsOp{}) {
			if d, code := impl.DiskDo(c.d, o); code != 1 || !sameDisk(d, impl.Disk{}) {
				t.Errorf("%s: DiskDo %s, %d", c.what, brief(d), code)
			}
		}
		if d, code := impl.DiskSync(c.d); code != 1 || !sameDisk(d, impl.Disk{}) {
			t.Errorf("%s: DiskSync %s, %d", c.what, brief(d), code)
		}
		for n := -1; n < 4; n++ {
			if d, ok := impl.DiskCrash(c.d, n, 1); ok || !sameDisk(d, impl.Disk{}) {
				t.Errorf("%s: DiskCrash %s, %v", c.what, brief(d), ok)
			}
		}
		if d, ok := impl.DiskSet(c.d, impl.MaxDisk, -1); ok || !sameDisk(d, impl.Disk{}) {
			t.Errorf("%s: DiskSet %s, %v", c.what, brief(d), ok)
		}
	}
}

func TestInvalidDisksWithFuseZero(t *testing.T) {
	for _, c := range badDisks() {
		c.d.Fuse = 0
		if wantDiskOk(c.d) {
			continue
		}
		if d, code := impl.DiskDo(c.d, create("a")); code != 1 || !sameDisk(d, impl.Disk{}) {
			t.Errorf("%s: DiskDo %s, %d", c.what, brief(d), code)
		}
		if d, code := impl.DiskSync(c.d); code != 1 || !sameDisk(d, impl.Disk{}) {
			t.Errorf("%s: DiskSync %s, %d", c.what, brief(d), code)
		}
	}
}

func TestDiskNew(t *testing.T) {
	for _, room := range []int{0, 1, 10, 199999, 200000} {
		d, ok := impl.DiskNew(room)
		if !ok || !impl.DiskOk(d) || !sameDisk(d, disk(room, -1, nil)) {
			t.Errorf("room %d: %s, %v", room, brief(d), ok)
		}
	}
	for _, room := range []int{-1, -2, 200001, 1 << 40, math.MinInt, math.MaxInt} {
		if d, ok := impl.DiskNew(room); ok || !sameDisk(d, impl.Disk{}) {
			t.Errorf("room %d: %s, %v", room, brief(d), ok)
		}
	}
}

func TestSeenAndRead(t *testing.T) {
	for _, c := range goodDisks() {
		want := wantSeen(c.d)
		if got := impl.Seen(c.d); !sameFiles(got, want.files()) {
			t.Errorf("%s: Seen %s, want %s", c.what, brief(got), brief(want))
		}
		for _, name := range append([]string{"", "A", "nothere", "a", "b", "c", "d", "x", "y"}, strings.Fields("log v.1 f00 f01 f03 f04 g . ............")...) {
			at := want.find(name)
			b, ok := impl.DiskRead(c.d, name)
			if ok != (at >= 0) || !ok && b != nil || ok && string(b) != want[at].text {
				t.Errorf("%s: DiskRead(%q) = %s, %v", c.what, name, brief(string(b)), ok)
			}
		}
	}
}

func TestSeenKnown(t *testing.T) {
	d := disk(30, -1, files("b", "12", "c", "345"), create("a"), appendTo("c", "6"), rename("c", "d"), create("b"), appendTo("b", "x"), appendTo("b", "yz"), create("e"), remove("a"))
	if got := impl.Seen(d); !sameFiles(got, files("b", "xyz", "d", "3456", "e", "")) {
		t.Errorf("Seen %s", brief(got))
	}
	if b, ok := impl.DiskRead(d, "e"); !ok || len(b) != 0 {
		t.Errorf("an empty file: %q, %v", b, ok)
	}
	if b, ok := impl.DiskRead(d, "c"); ok || b != nil {
		t.Errorf("a renamed file: %q, %v", b, ok)
	}
	onto := disk(30, -1, files("b", "12", "c", "345"), rename("b", "c"))
	if got := impl.Seen(onto); !sameFiles(got, files("c", "12")) {
		t.Errorf("a rename onto an existing file: %s", brief(got))
	}
}

// wantDo follows the text of DiskDo step by step; d must be valid.
func wantDo(d impl.Disk, o impl.FsOp) (impl.Disk, int) {
	if !wantOpOk(o) {
		return impl.Disk{}, 1
	}
	if d.Fuse == 0 {
		return d, 2
	}
	seen := wantSeen(d)
	if _, ok := seen.after(o); !ok {
		return d, 3
	}
	if len(d.Wait) == 60 {
		return d, 4
	}
	if d.Fuse > 0 {
		d.Fuse--
	}
	free := d.Room - seen.size()
	if o.Kind != impl.FsAppend || len(o.Data) <= free {
		d.Wait = slices.Concat(d.Wait, []impl.FsOp{o})
		return d, 0
	}
	if free > 0 {
		d.Wait = slices.Concat(d.Wait, []impl.FsOp{appendTo(o.Name, string(o.Data[:free]))})
	}
	return d, 5
}

func checkDo(t *testing.T, what string, d impl.Disk, o impl.FsOp) (impl.Disk, int) {
	t.Helper()
	want, code := wantDo(d, o)
	got, c := impl.DiskDo(d, o)
	if c != code || !sameDisk(got, want) {
		t.Errorf("%s: DiskDo of %s = %s, %d, want %s, %d", what, brief(o), brief(got), c, brief(want), code)
	}
	if !impl.DiskOk(got) || !wantDiskOk(got) {
		t.Errorf("%s: after %s, the disk is not valid: %s", what, brief(o), brief(got))
	}
	return got, c
}

func TestDiskDo(t *testing.T) {
	codes := map[int]int{}
	for _, c := range goodDisks() {
		for _, fuse := range []int{c.d.Fuse, -1, 0, 1, 2, impl.MaxFuse} {
			d := c.d
			d.Fuse = fuse
			for _, o := range tryOps() {
				_, code := checkDo(t, c.what, d, o)
				codes[code]++
			}
		}
	}
	for _, code := range []int{0, 2, 3, 4, 5} {
		if codes[code] == 0 {
			t.Errorf("no disk gave the code %d", code)
		}
	}
}

func TestDiskDoRejectsOperations(t *testing.T) {
	for _, c := range goodDisks() {
		for _, o := range badOps() {
			if d, code := impl.DiskDo(c.d, o.o); code != 1 || !sameDisk(d, impl.Disk{}) {
				t.Errorf("%s: %s gives %s, %d", c.what, o.what, brief(d), code)
			}
		}
	}
}

func TestDiskDoKnown(t *testing.T) {
	full := disk(6, 3, files("a", "12", "b", "3456"))
	waits := disk(6, 3, files("a", "1"), manyOps(60)...)
	one := disk(6, 3, files("a", "12"))
	crowd := disk(50, 3, manyFiles(12))
	for _, c := range []struct {
		what string
		d    impl.Disk
		o    impl.FsOp
		want impl.Disk
		code int
	}{
		{"a create", one, create("b"), disk(6, 2, one.Files, create("b")), 0},
		{"a create of an existing file", one, create("a"), disk(6, 2, one.Files, create("a")), 0},
		{"an append that fits", one, appendTo("a", "3456"), disk(6, 2, one.Files, appendTo("a", "3456")), 0},
		{"an append that fits in part", one, appendTo("a", "34567"), disk(6, 2, one.Files, appendTo("a", "3456")), 5},
		{"an append that does not fit", full, appendTo("a", "x"), disk(6, 2, full.Files), 5},
		{"an append in room 0", disk(0, 1, files("a", "")), appendTo("a", "x"), disk(0, 0, files("a", "")), 5},
		{"a create on a full disk", full, create("c"), disk(6, 2, full.Files, create("c")), 0},
		{"a rename onto an existing file", full, rename("b", "a"), disk(6, 2, full.Files, rename("b", "a")), 0},
		{"a rename onto itself", full, rename("b", "b"), full, 3},
		{"a rename of no file", full, rename("c", "a"), full, 3},
		{"a remove", full, remove("b"), disk(6, 2, full.Files, remove("b")), 0},
		{"a remove of no file", full, remove("c"), full, 3},
		{"an append to no file that does not fit", full, appendTo("c", "x"), full, 3},
		{"a create of a thirteenth file", crowd, create("x"), crowd, 3},
		{"a create of one of twelve files", crowd, create("f05"), disk(50, 2, crowd.Files, create("f05")), 0},
		{"a rename among twelve files", crowd, rename("f05", "x"), disk(50, 2, crowd.Files, rename("f05", "x")), 0},
		{"a sixty-first operation", waits, create("b"), waits, 4},
		{"a sixty-first operation that is not applicable", waits, remove("b"), waits, 3},
		{"a sixty-first operation that does not fit", waits, appendTo("a", "1234567"), waits, 4},
		{"an operation without power", disk(6, 0, full.Files), remove("a"), disk(6, 0, full.Files), 2},
		{"an operation without power, not applicable", disk(6, 0, full.Files), remove("c"), disk(6, 0, full.Files), 2},
		{"a sixty-first operation without power", disk(6, 0, waits.Files, waits.Wait...), create("b"), disk(6, 0, waits.Files, waits.Wait...), 2},
		{"a wrong operation without power", disk(6, 0, full.Files), create("B"), impl.Disk{}, 1},
		{"no limit of power", disk(6, -1, one.Files), remove("a"), disk(6, -1, one.Files, remove("a")), 0},
		{"no limit of power, no room", disk(2, -1, one.Files), appendTo("a", "x"), disk(2, -1, one.Files), 5},
	} {
		got, code := impl.DiskDo(c.d, c.o)
		if code != c.code {
			t.Errorf("%s: the code %d, want %d", c.what, code, c.code)
		}
		wantDisk(t, c.what, got, c.want)
	}
}

func TestFuseCountsOperations(t *testing.T) {
	for fuse := range 6 {
		d := disk(3, fuse, files("a", "12"))
		for i := range fuse {
			var code, want int
			switch i % 3 {
			case 0:
				d, code = impl.DiskDo(d, create("b"))
			case 1:
				d, code = impl.DiskSync(d)
			case 2:
				d, code = impl.DiskDo(d, appendTo("a", "3456"))
				want = 5
			}
			if code != want || d.Fuse != fuse-i-1 {
				t.Errorf("fuse %d, operation %d: the code %d and the fuse %d", fuse, i, code, d.Fuse)
			}
			if same, code := impl.DiskDo(d, remove("none")); d.Fuse > 0 && (code != 3 || same.Fuse != d.Fuse) {
				t.Errorf("a refused operation: the code %d and the fuse %d", code, same.Fuse)
			}
		}
		after, code := impl.DiskDo(d, create("c"))
		if code != 2 || !sameDisk(after, d) {
			t.Errorf("fuse %d: %s, %d", fuse, brief(after), code)
		}
		after, code = impl.DiskSync(d)
		if code != 2 || !sameDisk(after, d) {
			t.Errorf("fuse %d: sync %s, %d", fuse, brief(after), code)
		}
	}
}

func TestDiskSync(t *testing.T) {
	for _, c := range goodDisks() {
		for fuse, left := range map[int]int{-1: -1, 1: 0, 2: 1, impl.MaxFuse: impl.MaxFuse - 1} {
			d := c.d
			d.Fuse = fuse
			seen := impl.Seen(d)
			got, code := impl.DiskSync(d)
			want := disk(d.Room, left, wantSeen(d).files())
			if code != 0 || !sameDisk(got, want) || !impl.DiskOk(got) {
				t.Errorf("%s: %s, %d, want %s", c.what, brief(got), code, brief(want))
			}
			if !sameFiles(got.Files, seen) || len(got.Wait) != 0 || !sameFiles(impl.Seen(got), seen) {
				t.Errorf("%s: what is durable is not what was visible", c.what)
			}
		}
		d := c.d
		d.Fuse = 0
		if got, code := impl.DiskSync(d); code != 2 || !sameDisk(got, d) || !impl.DiskOk(got) {
			t.Errorf("%s without power: %s, %d", c.what, brief(got), code)
		}
	}
}

// wantCrash clamps by counting, and shortens the torn append byte by byte.
func wantCrash(d impl.Disk, n, size int) impl.Disk {
	s := shelfOf(d.Files)
	for i, o := range d.Wait {
		if i < n {
			s, _ = s.after(o)
			continue
		}
		text := string(o.Data)
		for text != "" && len(text) > size {
			text = text[:len(text)-1]
		}
		if o.Kind == impl.FsAppend {
			s, _ = s.after(appendTo(o.Name, text))
		}
		break
	}
	return disk(d.Room, -1, s.files())
}

func TestDiskCrash(t *testing.T) {
	for _, c := range goodDisks() {
		ns := []int{math.MinInt, -7, math.MaxInt}
		for n := -1; n <= len(c.d.Wait)+1; n++ {
			ns = append(ns, n)
		}
		for _, n := range ns {
			for _, size := range []int{math.MinInt, -1, 0, 1, 2, 3, 4, 5, 6, 100, math.MaxInt} {
				want := wantCrash(c.d, n, size)
				got, ok := impl.DiskCrash(c.d, n, size)
				if !ok || !sameDisk(got, want) || !impl.DiskOk(got) || !wantDiskOk(got) {
					t.Errorf("%s: DiskCrash(%d, %d) = %s, %v, want %s", c.what, n, size, brief(got), ok, brief(want))
				}
			}
		}
	}
}

func TestDiskCrashKnown(t *testing.T) {
	d := disk(20, 0, files("a", "12"), appendTo("a", "345"), create("b"), appendTo("b", "xyz"), rename("b", "a"))
	for _, c := range []struct {
		n, size int
		want    []impl.File
	}{
		{math.MinInt, math.MinInt, files("a", "12")},
		{-1, 2, files("a", "1234")},
		{0, 0, files("a", "12")},
		{0, 1, files("a", "123")},
		{0, 3, files("a", "12345")},
		{0, math.MaxInt, files("a", "12345")},
		{1, 2, files("a", "12345")},
		{2, -1, files("a", "12345", "b", "")},
		{2, 2, files("a", "12345", "b", "xy")},
		{3, 3, files("a", "12345", "b", "xyz")},
		{4, 1, files("a", "xyz")},
		{5, 1, files("a", "xyz")},
		{math.MaxInt, math.MaxInt, files("a", "xyz")},
	} {
		got, ok := impl.DiskCrash(d, c.n, c.size)
		if !ok {
			t.Errorf("DiskCrash(%d, %d) is false", c.n, c.size)
		}
		wantDisk(t, fmt.Sprintf("DiskCrash(%d, %d)", c.n, c.size), got, disk(20, -1, c.want))
	}
	big := strings.Repeat("z", impl.MaxDisk)
	got, ok := impl.DiskCrash(disk(impl.MaxDisk, 5, files("a", ""), appendTo("a", big)), 0, impl.MaxDisk-1)
	if !ok || !sameDisk(got, disk(impl.MaxDisk, -1, files("a", big[1:]))) {
		t.Errorf("a torn append of %d bytes: %s, %v", impl.MaxDisk, brief(got), ok)
	}
}

func TestDiskBend(t *testing.T) {
	d := disk(20, 4, files("a", "", "b", "123", "c", "\x00\xff"))
	for _, name := range []string{"a", "b", "c", "d", "", "B"} {
		for _, at := range []int{math.MinInt, -3, -1, 0, 1, 2, 3, 4, math.MaxInt} {
			for _, mask := range []int{math.MinInt, -255, -1, 0, 1, 2, 85, 128, 254, 255, 256, 257, 511, 1 << 32, 1<<32 + 1, math.MaxInt} {
				file := slices.IndexFunc(d.Files, func(f impl.File) bool { return f.Name == name })
				want, fine := impl.Disk{}, false
				if file >= 0 && at >= 0 && at < len(d.Files[file].Data) && mask >= 1 && mask <= 255 {
					want, fine = disk(20, 4, shelfOf(d.Files).files()), true
					want.Files[file].Data[at] ^= byte(mask)
				}
				got, ok := impl.DiskBend(d, name, at, mask)
				if ok != fine || !sameDisk(got, want) {
					t.Errorf("DiskBend(%q, %d, %d) = %s, %v, want %s", name, at, mask, brief(got), ok, brief(want))
				}
				if back, ok := impl.DiskBend(got, name, at, mask); fine && (!ok || !sameDisk(back, d)) {
					t.Errorf("DiskBend(%q, %d, %d) twice: %s", name, at, mask, brief(back))
				}
			}
		}
	}
}

func TestDiskBendNeedsDurableFiles(t *testing.T) {
	for _, o := range []impl.FsOp{create("b"), appendTo("a", "2"), rename("a", "c"), remove("a")} {
		if d, ok := impl.DiskBend(disk(9, -1, files("a", "1"), o), "a", 0, 1); ok || !sameDisk(d, impl.Disk{}) {
			t.Errorf("with %s waiting: %s", brief(o), brief(d))
		}
	}
	for _, fuse := range []int{-1, 0, 1, impl.MaxFuse} {
		if d, ok := impl.DiskBend(disk(1, fuse, files("a", "1")), "a", 0, 3); !ok || !sameDisk(d, disk(1, fuse, files("a", "2"))) {
			t.Errorf("fuse %d: %s, %v", fuse, brief(d), ok)
		}
	}
}

func TestDiskSet(t *testing.T) {
	rooms := []int{math.MinInt, -1, 0, 1, 3, 4, 5, 6, 7, 30, 199999, 200000, 200001, math.MaxInt}
	fuses := []int{math.MinInt, -2, -1, 0, 1, 2000, 2001, math.MaxInt}
	for _, c := range goodDisks() {
		for _, room := range rooms {
			for _, fuse := range fuses {
				want := c.d
				want.Room, want.Fuse = room, fuse
				fine := wantDiskOk(want)
				if !fine {
					want = impl.Disk{}
				}
				got, ok := impl.DiskSet(c.d, room, fuse)
				if ok != fine || !sameDisk(got, want) {
					t.Errorf("%s: DiskSet(%d, %d) = %s, %v, want %s", c.what, room, fuse, brief(got), ok, brief(want))
				}
			}
		}
	}
	// Five bytes are needed in between, though none are durable and none are visible.
	between := disk(9, -1, nil, create("a"), appendTo("a", "12345"), remove("a"))
	for room := range 9 {
		if _, ok := impl.DiskSet(between, room, -1); ok != (room >= 5) {
			t.Errorf("room %d: %v", room, ok)
		}
	}
}

// crowded returns a disk and an operation whose slices all lie in one array, overlap and have room behind them, and that array.
func crowded() (impl.Disk, impl.FsOp, []byte) {
	room := []byte("abcdefghijklmnopqrstuvwxyz0123456789")
	l := make([]impl.File, 0, 9)
	l = append(l, impl.File{Name: "a", Data: room[0:3]}, impl.File{Name: "b", Data: room[3:5]}, impl.File{Name: "c", Data: room[0:3]}, impl.File{Name: "d", Data: room[9:9]})
	w := make([]impl.FsOp, 0, 70)
	w = append(w, impl.FsOp{Kind: impl.FsAppend, Name: "a", Data: room[1:4]}, impl.FsOp{Kind: impl.FsAppend, Name: "a", Data: room[5:6]},
		rename("b", "e"), impl.FsOp{Kind: impl.FsAppend, Name: "e", Data: room[1:4]}, create("d"), impl.FsOp{Kind: impl.FsAppend, Name: "d", Data: room[2:3]})
	return impl.Disk{Room: 25, Fuse: 5, Files: l, Wait: w}, impl.FsOp{Kind: impl.FsAppend, Name: "c", Data: room[0:8]}, room
}

func bytesOf(d impl.Disk) [][]byte {
	var out [][]byte
	for _, f := range d.Files {
		out = append(out, f.Data)
	}
	for _, o := range d.Wait {
		out = append(out, o.Data)
	}
	return out
}

// overwrite writes to all of a result's memory, also behind the ends of its slices, and reports whether two of its slices share some.
func overwrite(d impl.Disk) bool {
	parts := bytesOf(d)
	for i, b := range parts {
		b = b[:cap(b)]
		for k := range b {
			b[k] = byte(i + 1)
		}
	}
	shared := false
	for i, b := range parts {
		b = b[:cap(b)]
		shared = shared || len(b) != bytes.Count(b, []byte{byte(i + 1)})
	}
	clear(d.Files[:cap(d.Files)])
	clear(d.Wait[:cap(d.Wait)])
	return shared
}

// sameWithRoom also compares what lies behind the ends of the slices.
func sameWithRoom(a, b impl.Disk) bool {
	return sameDisk(a, b) && sameFiles(a.Files[:cap(a.Files)], b.Files[:cap(b.Files)]) && sameOps(a.Wait[:cap(a.Wait)], b.Wait[:cap(b.Wait)])
}

// checkMemory makes a call with a crowded disk, changed by change, and looks at the arguments after the call and after its result is overwritten.
func checkMemory(t *testing.T, what string, change func(*impl.Disk), call func(impl.Disk, impl.FsOp) impl.Disk) {
	t.Helper()
	d, o, room := crowded()
	change(&d)
	kept, keptOp, keptRoom := crowded()
	change(&kept)
	whole := func() bool {
		return bytes.Equal(room, keptRoom) && sameWithRoom(d, kept) && sameOps([]impl.FsOp{o}, []impl.FsOp{keptOp})
	}
	got := call(d, o)
	if !whole() {
		t.Errorf("%s changes an argument", what)
	}
	if len(got.Files) == 0 {
		t.Errorf("%s: the result has no files", what)
	}
	if overwrite(got) {
		t.Errorf("%s: two slices of the result share memory", what)
	}
	if !whole() {
		t.Errorf("%s: the result shares memory with an argument", what)
	}
}

func asItIs(*impl.Disk) {}

func withoutPower(d *impl.Disk) { d.Fuse = 0 }

func withoutWait(d *impl.Disk) { d.Wait = d.Wait[:0] }

func withRoom(n int) func(*impl.Disk) { return func(d *impl.Disk) { d.Room = n } }

func withMaxWait(d *impl.Disk) {
	for len(d.Wait) < impl.MaxWait {
		d.Wait = append(d.Wait, create("f"))
	}
}

func TestDiskDoGivesNewMemory(t *testing.T) {
	do := func(d impl.Disk, o impl.FsOp) impl.Disk {
		out, _ := impl.DiskDo(d, o)
		return out
	}
	other := func(o impl.FsOp) func(impl.Disk, impl.FsOp) impl.Disk {
		return func(d impl.Disk, _ impl.FsOp) impl.Disk { return do(d, o) }
	}
	checkMemory(t, "an append", asItIs, do)
	checkMemory(t, "a first append", withoutWait, do)
	checkMemory(t, "an append that fits in part", withRoom(20), do)
	checkMemory(t, "an append that does not fit", withRoom(16), do)
	checkMemory(t, "an append without power", withoutPower, do)
	checkMemory(t, "an append too many", withMaxWait, do)
	checkMemory(t, "a create", asItIs, other(create("a")))
	checkMemory(t, "a rename", asItIs, other(rename("a", "c")))
	checkMemory(t, "a remove", asItIs, other(remove("a")))
	checkMemory(t, "a remove of no file", asItIs, other(remove("b")))
}

func TestOtherDiskResultsAreNewMemory(t *testing.T) {
	sync := func(d impl.Disk, _ impl.FsOp) impl.Disk {
		out, _ := impl.DiskSync(d)
		return out
	}
	checkMemory(t, "DiskSync", asItIs, sync)
	checkMemory(t, "DiskSync of nothing", withoutWait, sync)
	checkMemory(t, "DiskSync without power", withoutPower, sync)
	checkMemory(t, "DiskSet", asItIs, func(d impl.Disk, _ impl.FsOp) impl.Disk {
		out, _ := impl.DiskSet(d, 30, 9)
		return out
	})
	checkMemory(t, "DiskBend", withoutWait, func(d impl.Disk, _ impl.FsOp) impl.Disk {
		out, _ := impl.DiskBend(d, "a", 1, 255)
		return out
	})
	checkMemory(t, "Seen", asItIs, func(d impl.Disk, _ impl.FsOp) impl.Disk { return impl.Disk{Files: impl.Seen(d)} })
	checkMemory(t, "DiskRead", asItIs, func(d impl.Disk, _ impl.FsOp) impl.Disk {
		c, _ := impl.DiskRead(d, "c")
		a, _ := impl.DiskRead(d, "a")
		again, _ := impl.DiskRead(d, "c")
		return impl.Disk{Files: []impl.File{{Data: c}, {Data: a}, {Data: again}}}
	})
	for n := range 8 {
		for size := range 4 {
			checkMemory(t, fmt.Sprintf("DiskCrash(%d, %d)", n, size), asItIs, func(d impl.Disk, _ impl.FsOp) impl.Disk {
				out, _ := impl.DiskCrash(d, n, size)
				return out
			})
		}
	}
}

func TestRejectingChangesNothing(t *testing.T) {
	d, _, room := crowded()
	d.Room = 15
	kept, _, keptRoom := crowded()
	kept.Room = 15
	impl.DiskOk(d)
	impl.Seen(d)
	impl.DiskRead(d, "a")
	impl.DiskDo(d, create("a"))
	impl.DiskSync(d)
	impl.DiskCrash(d, 1, 1)
	impl.DiskBend(d, "a", 0, 1)
	impl.DiskSet(d, 30, 1)
	if !bytes.Equal(room, keptRoom) || !sameWithRoom(d, kept) {
		t.Error("a call with a disk that is not valid changes it")
	}
}

func TestCrowdedDiskCounts(t *testing.T) {
	d, o, _ := crowded()
	if !impl.DiskOk(d) || !sameFiles(impl.Seen(d), files("a", "abcbcdf", "c", "abc", "d", "c", "e", "debcd")) {
		t.Fatalf("the disk is %s", brief(d))
	}
	for room, want := range map[int]int{16: 5, 20: 5, 23: 5, 24: 0, 25: 0} {
		d.Room = room
		if _, code := checkDo(t, fmt.Sprint("room ", room), d, o); code != want {
			t.Errorf("room %d: the code %d, want %d", room, code, want)
		}
	}
}

func randomOp(r *rand.Rand, names []string) impl.FsOp {
	name := names[r.Intn(len(names))]
	switch r.Intn(7) {
	case 0, 1:
		return create(name)
	case 2:
		return rename(name, names[r.Intn(len(names))])
	case 3:
		if r.Intn(2) == 0 {
			return remove(name)
		}
	}
	b := make([]byte, 1+r.Intn(9))
	r.Read(b)
	return appendTo(name, string(b))
}

// checkCrashes compares the crash after every operation, and after every byte of an append.
func checkCrashes(t *testing.T, d impl.Disk) {
	t.Helper()
	for n := range len(d.Wait) + 1 {
		most := 0
		if n < len(d.Wait) {
			most = len(d.Wait[n].Data)
		}
		for size := range most + 1 {
			got, ok := impl.DiskCrash(d, n, size)
			if want := wantCrash(d, n, size); !ok || !sameDisk(got, want) || !impl.DiskOk(got) {
				t.Fatalf("DiskCrash(%s, %d, %d) = %s, %v, want %s", brief(d), n, size, brief(got), ok, brief(want))
			}
		}
	}
}

func TestDiskStaysValid(t *testing.T) {
	r := rand.New(rand.NewSource(5))
	names := strings.Fields("a b c d e f g h i log log.new v.1 v.2 g.1 zzzzzzzzzzzz")
	codes := map[int]int{}
	for range 60 {
		d, _ := impl.DiskNew(r.Intn(80))
		d, _ = impl.DiskSet(d, d.Room, r.Intn(200)-1)
		// Where DiskSync and DiskCrash are rare, MaxWait is reached.
		pace := []int{20, 60, 500}[r.Intn(3)]
		for range 200 {
			switch r.Intn(pace) {
			case 0:
				seen := impl.Seen(d)
				d, _ = impl.DiskSync(d)
				if !sameFiles(impl.Seen(d), seen) {
					t.Fatalf("DiskSync changes what is visible")
				}
			case 1:
				checkCrashes(t, d)
				d, _ = impl.DiskCrash(d, r.Intn(len(d.Wait)+2)-1, r.Intn(10))
			case 2:
				if next, ok := impl.DiskSet(d, r.Intn(100), r.Intn(100)-1); ok {
					d = next
				}
			case 3:
				if next, ok := impl.DiskBend(d, names[r.Intn(len(names))], r.Intn(5), 1+r.Intn(255)); ok {
					d = next
				}
			default:
				var code int
				d, code = checkDo(t, "a long session", d, randomOp(r, names))
				codes[code]++
			}
			if !impl.DiskOk(d) || !wantDiskOk(d) || !sameFiles(impl.Seen(d), wantSeen(d).files()) {
				t.Fatalf("the disk became %s", brief(d))
			}
		}
	}
	for _, code := range []int{0, 2, 3, 4, 5} {
		if codes[code] == 0 {
			t.Errorf("the code %d did not occur", code)
		}
	}
}

func TestDiskOkOfAnyDisk(t *testing.T) {
	r := rand.New(rand.NewSource(6))
	names := strings.Fields("a b c d e A abcdefghijkl abcdefghijklm")
	valid := 0
	for range 30000 {
		d := impl.Disk{Room: r.Intn(20) - 1, Fuse: r.Intn(5) - 1}
		for i := range r.Intn(5) {
			d.Files = append(d.Files, impl.File{Name: names[(i+r.Intn(8)/7)%len(names)], Data: make([]byte, r.Intn(4))})
		}
		for range r.Intn(5) {
			o := randomOp(r, names[:5+r.Intn(20)/17])
			o.Data = o.Data[:len(o.Data)*r.Intn(9)/8]
			d.Wait = append(d.Wait, o)
		}
		want := wantDiskOk(d)
		if want {
			valid++
		}
		if impl.DiskOk(d) != want || want && !sameFiles(impl.Seen(d), wantSeen(d).files()) {
			t.Fatalf("DiskOk(%s) is not %v", brief(d), want)
		}
	}
	if valid < 1000 || valid > 29000 {
		t.Errorf("%d of 30000 disks are valid", valid)
	}
}
