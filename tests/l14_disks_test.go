package tests

import (
	"fmt"
	"maps"
	"math/rand/v2"
	"slices"
	"strings"
	"testing"

	"loop.example/g00617/impl"
)

// Promise 14: if all operations of a valid disk are kept completely, Crash
// leaves what was seen, and if none is kept, what was synchronized; the effect
// of an operation is seen; a file that is replaced on a synchronized disk
// without a file under its temporary name has the old or the new contents,
// whichever of the operations of Replace are kept.

const (
	maxFiles = 60
	maxBytes = 200000
	maxOps   = 200

	dkAppend = 1
	dkRename = 2
	dkRemove = 3

	dkOk   = 0
	dkDisk = 1
	dkForm = 2
	dkNone = 3
	dkFull = 4
)

// A fileSet is the model of a list of files: their Data under their names.
type fileSet map[string]string

// A drive is the model of a disk.
type drive struct {
	live, safe fileSet
	ops        []impl.DOp
}

func (s fileSet) files() []impl.File {
	var out []impl.File
	for _, name := range slices.Sorted(maps.Keys(s)) {
		out = append(out, impl.File{Name: name, Data: s[name]})
	}
	return out
}

func (s fileSet) size() int {
	n := 0
	for _, data := range s {
		n += len(data)
	}
	return n
}

func (s fileSet) fits() bool {
	return len(s) <= maxFiles && s.size() <= maxBytes
}

// changed returns the files after an operation, and whether it finds its file.
func (s fileSet) changed(op impl.DOp) (fileSet, bool) {
	out := fileSet{}
	maps.Copy(out, s)
	data, found := s[op.Name]
	switch {
	case op.Kind == dkAppend:
		out[op.Name] = data + op.Data
		return out, true
	case found && op.Kind == dkRename:
		delete(out, op.Name)
		out[op.To] = data
	case found && op.Kind == dkRemove:
		delete(out, op.Name)
	}
	return out, found
}

// formed reports whether the form of an operation is valid.
func formed(op impl.DOp) bool {
	name := len(op.Name) > 0 && len(op.Name) < 101
	to := len(op.To) > 0 && len(op.To) < 101
	return op.Kind == dkAppend && name && op.To == "" ||
		op.Kind == dkRename && name && to && op.Data == "" ||
		op.Kind == dkRemove && name && op.To == "" && op.Data == ""
}

// driveOf returns a drive on which these files are synchronized.
func driveOf(s fileSet) drive {
	return drive{live: s, safe: s}
}

func (d drive) disk() impl.Disk {
	return impl.Disk{Live: d.live.files(), Safe: d.safe.files(), Ops: slices.Clone(d.ops)}
}

// done is the model of Do.
func (d drive) done(op impl.DOp) (drive, int64) {
	if !formed(op) {
		return d, dkForm
	}
	live, found := d.live.changed(op)
	if !found {
		return d, dkNone
	}
	if len(d.ops) >= maxOps || !live.fits() {
		return d, dkFull
	}
	return drive{live: live, safe: d.safe, ops: append(slices.Clip(d.ops), op)}, dkOk
}

// replaced is the model of Replace.
func (d drive) replaced(name, data string) (drive, int64) {
	out, code := d, int64(dkOk)
	if _, found := d.live[name+".new"]; found {
		out, code = out.done(impl.DOp{Kind: dkRemove, Name: name + ".new"})
	}
	if code == dkOk {
		out, code = out.done(impl.DOp{Kind: dkAppend, Name: name + ".new", Data: data})
	}
	if code == dkOk {
		out, code = out.done(impl.DOp{Kind: dkRename, Name: name + ".new", To: name})
	}
	if code != dkOk {
		return d, code
	}
	return out, dkOk
}

// crashed is the model of Crash.
func (d drive) crashed(keep []int64, torn int64) (drive, bool) {
	last := int64(-1)
	for _, i := range keep {
		if i <= last || i >= int64(len(d.ops)) {
			return drive{}, false
		}
		last = i
	}
	files := d.safe
	for i, op := range d.ops {
		if !slices.Contains(keep, int64(i)) {
			continue
		}
		if int64(i) == last && op.Kind == dkAppend && int64(len(op.Data)) > max(torn, 0) {
			op.Data = op.Data[:max(torn, 0)]
		}
		files, _ = files.changed(op)
	}
	if torn < 0 || !files.fits() {
		return drive{}, false
	}
	return driveOf(files), true
}

// after returns the drive after these operations, all of which must be done.
func (d drive) after(t *testing.T, ops ...impl.DOp) drive {
	t.Helper()
	for _, op := range ops {
		next, code := d.done(op)
		if code != dkOk {
			t.Fatal(short(op), code)
		}
		d = next
	}
	return d
}

func appended(name, data string) impl.DOp {
	return impl.DOp{Kind: dkAppend, Name: name, Data: data}
}

func renamed(name, to string) impl.DOp {
	return impl.DOp{Kind: dkRename, Name: name, To: to}
}

func removed(name string) impl.DOp {
	return impl.DOp{Kind: dkRemove, Name: name}
}

// short returns the beginning of the text of x, because that of a disk may be
// long.
func short(x any) string {
	s := fmt.Sprintf("%+v", x)
	return s[:min(len(s), 600)]
}

func sameDisk(a, b impl.Disk) bool {
	return slices.Equal(a.Live, b.Live) && slices.Equal(a.Safe, b.Safe) && slices.Equal(a.Ops, b.Ops)
}

func wantDisk(t *testing.T, got impl.Disk, want drive) {
	t.Helper()
	if !sameDisk(got, want.disk()) {
		t.Fatalf("got %s; want %s", short(got), short(want))
	}
	if !impl.DiskOk(got) {
		t.Fatalf("%s is not valid", short(got))
	}
}

func wantZeroDisk(t *testing.T, got impl.Disk) {
	t.Helper()
	if !sameDisk(got, impl.Disk{}) {
		t.Fatalf("got %s; want no disk", short(got))
	}
}

// wantDone reports that Do does not do what the model does, or with another
// code, and returns the drive after it.
func wantDone(t *testing.T, d drive, op impl.DOp, code int64) drive {
	t.Helper()
	want, wantCode := d.done(op)
	if wantCode != code {
		t.Fatalf("%s on %s: the model returns %d, want %d", short(op), short(d), wantCode, code)
	}
	got, c := impl.Do(d.disk(), op)
	if c != code {
		t.Fatalf("%s on %s: got %d, want %d", short(op), short(d), c, code)
	}
	wantDisk(t, got, want)
	return want
}

func wantReplaced(t *testing.T, d drive, name, data string, code int64) drive {
	t.Helper()
	want, wantCode := d.replaced(name, data)
	got, c := impl.Replace(d.disk(), name, data)
	if c != code || wantCode != code {
		t.Fatalf("%.120q in %s: got %d, the model %d, want %d", name, short(d), c, wantCode, code)
	}
	wantDisk(t, got, want)
	return want
}

// wantCrashed reports that Crash does not return what the model does, and
// returns whether it is a disk.
func wantCrashed(t *testing.T, d drive, keep []int64, torn int64) bool {
	t.Helper()
	want, wantOk := d.crashed(keep, torn)
	got, ok := impl.Crash(d.disk(), keep, torn)
	if ok != wantOk {
		t.Fatalf("%v, torn %d, of %s: got %v, want %v", keep, torn, short(d), ok, wantOk)
	}
	if ok {
		wantDisk(t, got, want)
	} else {
		wantZeroDisk(t, got)
	}
	return ok
}

func wantNotCrashed(t *testing.T, d drive, keep []int64, torn int64) {
	t.Helper()
	if wantCrashed(t, d, keep, torn) {
		t.Fatalf("%v, torn %d, of %s: want false", keep, torn, short(d))
	}
}

func wantFile(t *testing.T, d impl.Disk, name, data string, want bool) {
	t.Helper()
	if got, ok := impl.ReadFile(d, name); ok != want || got != data {
		t.Fatalf("%.120q in %s: got %.120q, %v; want %.120q, %v", name, short(d), got, ok, data, want)
	}
}

// wantInvalidDisk reports a disk that is not rejected by each function.
func wantInvalidDisk(t *testing.T, d impl.Disk) {
	t.Helper()
	if impl.DiskOk(d) {
		t.Fatalf("%s is valid", short(d))
	}
	for _, op := range []impl.DOp{appended("a", "x"), renamed("a", "b"), removed("a"), removed("none"), {}, {Kind: 4, Name: "a"}} {
		got, code := impl.Do(d, op)
		if code != dkDisk {
			t.Fatalf("%s on %s: got %d", short(op), short(d), code)
		}
		wantZeroDisk(t, got)
	}
	wantZeroDisk(t, impl.Sync(d))
	for _, keep := range [][]int64{nil, {0}, {-1}} {
		got, ok := impl.Crash(d, keep, 99)
		if ok {
			t.Fatalf("%v of %s: got true", keep, short(d))
		}
		wantZeroDisk(t, got)
	}
	for _, f := range append([]impl.File{{Name: "a"}, {Name: "log"}, {}}, slices.Concat(d.Live, d.Safe)...) {
		wantFile(t, d, f.Name, "", false)
	}
	for _, name := range []string{"a", "log", "", strings.Repeat("a", 101)} {
		got, code := impl.Replace(d, name, "x")
		if code != dkDisk {
			t.Fatalf("%.120q in %s: got %d", name, short(d), code)
		}
		wantZeroDisk(t, got)
	}
}

func wantDiskOk(t *testing.T, d impl.Disk, want bool) {
	t.Helper()
	if !want {
		wantInvalidDisk(t, d)
	} else if !impl.DiskOk(d) {
		t.Fatalf("%s is not valid", short(d))
	}
}

// named returns n files in the order of their names, each with this Data.
func named(n int, data string) []impl.File {
	var out []impl.File
	for i := range n {
		out = append(out, impl.File{Name: fmt.Sprintf("f%02d", i), Data: data})
	}
	return out
}

func setOf(l []impl.File) fileSet {
	s := fileSet{}
	for _, f := range l {
		s[f.Name] = f.Data
	}
	return s
}

// sized returns files with n bytes of Data together.
func sized(n int) []impl.File {
	return []impl.File{{Name: "a", Data: strings.Repeat("x", n/3)}, {Name: "b"}, {Name: "c", Data: strings.Repeat("\x00", n-n/3)}}
}

func filesWith(names ...string) []impl.File {
	var out []impl.File
	for _, name := range names {
		out = append(out, impl.File{Name: name, Data: "d"})
	}
	return out
}

func validFiles() [][]impl.File {
	return [][]impl.File{
		nil,
		{},
		filesWith("a"),
		filesWith("a", "b"),
		filesWith("a", "aa", "b"),
		filesWith("B", "a"),
		filesWith("\x00", " ", "a\nb", "a b", "\xff"),
		filesWith(strings.Repeat("a", 100)),
		filesWith(strings.Repeat("a", 99), strings.Repeat("a", 100), "b"),
		{{Name: "a"}},
		{{Name: "a"}, {Name: "b", Data: "\x00\xff"}},
		named(maxFiles-1, "x"),
		named(maxFiles, "x"),
		named(maxFiles, ""),
		sized(maxBytes - 1),
		sized(maxBytes),
		{{Name: "a", Data: strings.Repeat("y", maxBytes)}},
	}
}

func invalidFiles() [][]impl.File {
	return [][]impl.File{
		filesWith(""),
		filesWith("", "a"),
		filesWith("a", ""),
		filesWith("a", "b", ""),
		filesWith(strings.Repeat("a", 101)),
		filesWith("a", strings.Repeat("b", 101)),
		filesWith("b", "a"),
		filesWith("a", "a"),
		filesWith("a", "b", "b"),
		filesWith("a", "a", "b"),
		filesWith("a", "c", "b"),
		filesWith("b", "c", "a"),
		filesWith("a", "B"),
		filesWith("aa", "a"),
		filesWith("\xff", "a"),
		{{Name: "a", Data: "1"}, {Name: "a", Data: "2"}},
		{{}},
		named(maxFiles+1, "x"),
		named(maxFiles+1, ""),
		named(200, ""),
		sized(maxBytes + 1),
		{{Name: "a", Data: strings.Repeat("y", maxBytes+1)}},
		{{Name: "a", Data: strings.Repeat("y", maxBytes)}, {Name: "b", Data: "z"}},
	}
}

func TestConstantsOfDisks(t *testing.T) {
	got := []int{impl.MaxFiles, impl.MaxBytes, impl.MaxOps, impl.DkAppend, impl.DkRename, impl.DkRemove, impl.DkOk, impl.DkDisk, impl.DkForm, impl.DkNone, impl.DkFull}
	if want := []int{60, 200000, 200, 1, 2, 3, 0, 1, 2, 3, 4}; !slices.Equal(got, want) {
		t.Error(got)
	}
}

func TestListsOfFiles(t *testing.T) {
	for _, l := range validFiles() {
		d := impl.Disk{Live: l, Safe: l}
		wantDiskOk(t, d, true)
		wantDisk(t, impl.Sync(d), driveOf(setOf(l)))
		for _, f := range l {
			wantFile(t, d, f.Name, f.Data, true)
		}
		wantDiskOk(t, impl.Disk{Live: l}, len(l) == 0)
		wantDiskOk(t, impl.Disk{Safe: l}, len(l) == 0)
	}
	for _, l := range invalidFiles() {
		wantDiskOk(t, impl.Disk{Live: l, Safe: l}, false)
		wantDiskOk(t, impl.Disk{Live: l}, false)
		wantDiskOk(t, impl.Disk{Safe: l}, false)
	}
}

// TestSafeFilesThatAreRepaired has operations after which Live is valid,
// although Safe is not.
func TestSafeFilesThatAreRepaired(t *testing.T) {
	long := strings.Repeat("y", maxBytes)
	for _, x := range []struct {
		safe []impl.File
		op   impl.DOp
		live []impl.File
	}{
		{named(maxFiles+1, "x"), removed("f60"), named(maxFiles, "x")},
		{named(maxFiles+1, "x"), renamed("f60", "f59"), named(maxFiles, "x")},
		{[]impl.File{{Name: "a", Data: long}, {Name: "b", Data: "z"}}, removed("b"), []impl.File{{Name: "a", Data: long}}},
		{[]impl.File{{Name: "a", Data: long}, {Name: "b", Data: "z"}}, renamed("b", "a"), []impl.File{{Name: "a", Data: "z"}}},
		{filesWith("b", "a"), removed("b"), filesWith("a")},
		{filesWith("b", "a"), removed("a"), filesWith("b")},
		{filesWith("a", "a"), removed("a"), filesWith("a")},
		{filesWith("a", "b", "b"), removed("b"), filesWith("a", "b")},
		{filesWith("a", "c", "b"), removed("b"), filesWith("a", "c")},
		{filesWith("a", "c", "b"), removed("c"), filesWith("a", "b")},
	} {
		wantDiskOk(t, impl.Disk{Live: x.live, Safe: x.safe, Ops: []impl.DOp{x.op}}, false)
		wantDiskOk(t, impl.Disk{Live: x.live, Safe: x.live}, true)
	}
}

// TestListsOfFilesInBetween has operations that leave a list of files which is
// not valid, although it is in the end.
func TestListsOfFilesInBetween(t *testing.T) {
	full, long := named(maxFiles, ""), []impl.File{{Name: "a", Data: strings.Repeat("y", maxBytes)}}
	for _, x := range []struct {
		safe, live []impl.File
		ops        []impl.DOp
		want       bool
	}{
		{full, full, []impl.DOp{appended("g", ""), removed("g")}, false},
		{full, full, []impl.DOp{appended("g", ""), renamed("g", "f00")}, false},
		{full, full, []impl.DOp{removed("f00"), appended("f00", "")}, true},
		{full, full, []impl.DOp{appended("f00", ""), removed("f00"), appended("f00", "")}, true},
		{long, nil, []impl.DOp{appended("a", "z"), removed("a")}, false},
		{long, long, []impl.DOp{appended("b", "z"), removed("b")}, false},
		{long, long, []impl.DOp{appended("b", ""), removed("b")}, true},
		{long, nil, []impl.DOp{appended("a", ""), removed("a")}, true},
	} {
		wantDiskOk(t, impl.Disk{Live: x.live, Safe: x.safe, Ops: x.ops}, x.want)
	}
}

// forms returns operations of all kinds with names of all lengths.
func forms() []impl.DOp {
	var out []impl.DOp
	names := []string{"", "a", "b", "zz", strings.Repeat("a", 100), strings.Repeat("a", 101), strings.Repeat("a", 300)}
	for _, kind := range []int64{0, dkAppend, dkRename, dkRemove, 4, 5, -1, -2, maxInt, minInt, 1 << 32, 1<<32 + 1} {
		for _, name := range names {
			for _, to := range names {
				for _, data := range []string{"", "x", "\x00"} {
					out = append(out, impl.DOp{Kind: kind, Name: name, To: to, Data: data})
				}
			}
		}
	}
	return out
}

func TestFormsOfOperations(t *testing.T) {
	seen := map[int64]int{}
	long := strings.Repeat("a", 100)
	for _, d := range []drive{driveOf(nil), driveOf(fileSet{"a": "1"}), driveOf(fileSet{"a": "1", "b": "2", long: "3"})} {
		for _, op := range forms() {
			want, code := d.done(op)
			wantDone(t, d, op, code)
			seen[code]++
			wantDiskOk(t, impl.Disk{Live: want.live.files(), Safe: d.safe.files(), Ops: []impl.DOp{op}}, code == dkOk)
			if !formed(op) {
				live, _ := d.live.changed(op)
				wantDiskOk(t, impl.Disk{Live: live.files(), Safe: d.safe.files(), Ops: []impl.DOp{op}}, false)
			}
		}
	}
	// Of the seven names, four are valid. Data may be empty or not for DkAppend
	// only, and each of the three disks has 0, 1 and 3 of the names.
	valid := map[int64]int{dkOk: 3*4*3 + (0+1+3)*4 + (0 + 1 + 3), dkNone: (4+3+1)*4 + (4 + 3 + 1), dkForm: len(forms())*3 - 3*(4*3+4*4+4)}
	if !maps.Equal(seen, valid) {
		t.Errorf("got %v, want %v", seen, valid)
	}
}

func TestFormsOfOperationsByName(t *testing.T) {
	at := func(n int) string { return strings.Repeat("n", n) }
	d := driveOf(fileSet{"a": "1", "b": "2", at(100): "3"})
	for _, x := range []struct {
		op   impl.DOp
		code int64
	}{
		{appended("", "x"), dkForm},
		{appended(at(1), "x"), dkOk},
		{appended(at(100), "x"), dkOk},
		{appended(at(101), "x"), dkForm},
		{impl.DOp{Kind: dkAppend, Name: "a", To: "b", Data: "x"}, dkForm},
		{impl.DOp{Kind: dkAppend, Name: "a", To: "a", Data: "x"}, dkForm},
		{renamed("", "b"), dkForm},
		{renamed("a", ""), dkForm},
		{renamed("a", "a"), dkOk},
		{renamed("a", "b"), dkOk},
		{renamed("a", "c"), dkOk},
		{renamed("a", at(100)), dkOk},
		{renamed("a", at(101)), dkForm},
		{renamed(at(100), "a"), dkOk},
		{renamed(at(101), "a"), dkForm},
		{renamed("c", "a"), dkNone},
		{renamed("c", "c"), dkNone},
		{impl.DOp{Kind: dkRename, Name: "a", To: "b", Data: "x"}, dkForm},
		{removed(""), dkForm},
		{removed("a"), dkOk},
		{removed("c"), dkNone},
		{removed(at(99)), dkNone},
		{removed(at(100)), dkOk},
		{removed(at(101)), dkForm},
		{impl.DOp{Kind: dkRemove, Name: "a", To: "b"}, dkForm},
		{impl.DOp{Kind: dkRemove, Name: "a", Data: "x"}, dkForm},
		{impl.DOp{Kind: 0, Name: "a"}, dkForm},
		{impl.DOp{Kind: 4, Name: "a"}, dkForm},
		{impl.DOp{}, dkForm},
	} {
		wantDone(t, d, x.op, x.code)
	}
}

func TestEffectsOfOperations(t *testing.T) {
	safe := fileSet{"a": "1", "b": "22", "d": ""}
	for _, x := range []struct {
		op   impl.DOp
		live fileSet
	}{
		{appended("a", "x"), fileSet{"a": "1x", "b": "22", "d": ""}},
		{appended("b", "\x00y"), fileSet{"a": "1", "b": "22\x00y", "d": ""}},
		{appended("b", ""), fileSet{"a": "1", "b": "22", "d": ""}},
		{appended("d", "z"), fileSet{"a": "1", "b": "22", "d": "z"}},
		{appended("c", "z"), fileSet{"a": "1", "b": "22", "c": "z", "d": ""}},
		{appended("c", ""), fileSet{"a": "1", "b": "22", "c": "", "d": ""}},
		{appended("A", "z"), fileSet{"A": "z", "a": "1", "b": "22", "d": ""}},
		{appended("e", "z"), fileSet{"a": "1", "b": "22", "d": "", "e": "z"}},
		{renamed("a", "c"), fileSet{"b": "22", "c": "1", "d": ""}},
		{renamed("a", "e"), fileSet{"b": "22", "d": "", "e": "1"}},
		{renamed("d", "A"), fileSet{"A": "", "a": "1", "b": "22"}},
		{renamed("a", "b"), fileSet{"b": "1", "d": ""}},
		{renamed("b", "a"), fileSet{"a": "22", "d": ""}},
		{renamed("d", "a"), fileSet{"a": "", "b": "22"}},
		{renamed("a", "a"), safe},
		{renamed("d", "d"), safe},
		{removed("a"), fileSet{"b": "22", "d": ""}},
		{removed("b"), fileSet{"a": "1", "d": ""}},
		{removed("d"), fileSet{"a": "1", "b": "22"}},
	} {
		got, code := impl.Do(driveOf(safe).disk(), x.op)
		want := drive{live: x.live, safe: safe, ops: []impl.DOp{x.op}}
		if code != dkOk {
			t.Fatal(x.op, code)
		}
		wantDisk(t, got, want)
		for _, name := range []string{"A", "a", "b", "c", "d", "e", "", "aa"} {
			data, found := x.live[name]
			wantFile(t, got, name, data, found)
		}
	}
}

// TestOtherLiveFiles has Live that Ops do not make of Safe.
func TestOtherLiveFiles(t *testing.T) {
	d := driveOf(fileSet{"a": "1", "b": "2"}).after(t, appended("c", "3"), renamed("a", "d"), removed("b"), appended("c", "4"))
	wantDiskOk(t, d.disk(), true)
	for _, change := range []func(x *impl.Disk){
		func(x *impl.Disk) { x.Live[0].Data = "3" },
		func(x *impl.Disk) { x.Live[0].Data = "344" },
		func(x *impl.Disk) { x.Live[0].Data = "43" },
		func(x *impl.Disk) { x.Live[0].Data = "" },
		func(x *impl.Disk) { x.Live[0].Name = "b" },
		func(x *impl.Disk) { x.Live[1].Name = "e" },
		func(x *impl.Disk) { x.Live[1].Data = "11" },
		func(x *impl.Disk) { x.Live = x.Live[:1] },
		func(x *impl.Disk) { x.Live = x.Live[1:] },
		func(x *impl.Disk) { x.Live = nil },
		func(x *impl.Disk) { x.Live = slices.Clone(x.Safe) },
		func(x *impl.Disk) { x.Live = append(x.Live, impl.File{Name: "e"}) },
		func(x *impl.Disk) { x.Safe[0].Data = "9" },
		func(x *impl.Disk) { x.Safe[1].Name = "bb" },
		func(x *impl.Disk) { x.Safe = x.Safe[:1] },
		func(x *impl.Disk) { x.Safe = nil },
		func(x *impl.Disk) { x.Safe = append(x.Safe, impl.File{Name: "e"}) },
		func(x *impl.Disk) { x.Safe = slices.Clone(x.Live) },
		func(x *impl.Disk) { x.Ops = nil },
		func(x *impl.Disk) { x.Ops = x.Ops[:3] },
		func(x *impl.Disk) { x.Ops = x.Ops[1:] },
		func(x *impl.Disk) { x.Ops = slices.Delete(x.Ops, 1, 2) },
		func(x *impl.Disk) { x.Ops = append(x.Ops, appended("c", "5")) },
		func(x *impl.Disk) { x.Ops = append(x.Ops, removed("b")) },
		func(x *impl.Disk) { x.Ops = append(x.Ops, renamed("a", "c")) },
		func(x *impl.Disk) { x.Ops = append(x.Ops, impl.DOp{}) },
		func(x *impl.Disk) { x.Ops[0], x.Ops[3] = x.Ops[3], x.Ops[0] },
		func(x *impl.Disk) { x.Ops[0].Data = "" },
		func(x *impl.Disk) { x.Ops[0].To = "d" },
		func(x *impl.Disk) { x.Ops[0].Kind = 0 },
		func(x *impl.Disk) { x.Ops[1].To = "e" },
		func(x *impl.Disk) { x.Ops[1].Data = "x" },
		func(x *impl.Disk) { x.Ops[2].Name = "a" },
		func(x *impl.Disk) { x.Ops[2].Data = "x" },
		func(x *impl.Disk) { x.Ops[2].To = "x" },
		func(x *impl.Disk) { x.Ops[2].Kind = 4 },
	} {
		x := d.disk()
		change(&x)
		wantDiskOk(t, x, false)
	}
	// Operations may change nothing, and they may be in another order if that
	// makes the same files.
	x := d.disk()
	x.Ops = append(x.Ops, appended("c", ""), renamed("d", "d"), appended("e", "6"), removed("e"))
	wantDiskOk(t, x, true)
	x.Ops[1], x.Ops[2] = x.Ops[2], x.Ops[1]
	wantDiskOk(t, x, true)
}

// opsOf returns n operations after which Safe and Live are equal again.
func opsOf(n int) []impl.DOp {
	var out []impl.DOp
	for i := range n {
		out = append(out, []impl.DOp{appended("a", ""), renamed("a", "a")}[i%2])
	}
	return out
}

func TestNumbersOfOperations(t *testing.T) {
	for n := range 403 {
		d := impl.Disk{Live: filesWith("a"), Safe: filesWith("a"), Ops: opsOf(n)}
		wantDiskOk(t, d, n <= maxOps)
	}
	d := driveOf(fileSet{"a": ""})
	for range maxOps {
		d = wantDone(t, d, appended("a", "x"), dkOk)
	}
	for _, op := range []impl.DOp{appended("a", "x"), appended("a", ""), appended("b", ""), renamed("a", "b"), renamed("a", "a"), removed("a")} {
		wantDone(t, d, op, dkFull)
	}
	for _, op := range []impl.DOp{removed("b"), renamed("b", "a")} {
		wantDone(t, d, op, dkNone)
	}
	for _, op := range []impl.DOp{{}, removed(""), appended("", ""), renamed("a", ""), renamed("b", ""), {Kind: 4, Name: "b"}} {
		wantDone(t, d, op, dkForm)
	}
	synced := impl.Sync(d.disk())
	wantDisk(t, synced, driveOf(d.live))
	wantDone(t, driveOf(d.live), appended("a", "x"), dkOk)
}

func TestNumbersOfFiles(t *testing.T) {
	d := driveOf(nil)
	for i := range maxFiles {
		d = wantDone(t, d, appended(string(rune('A'+(i*7)%60)), "x"), dkOk)
	}
	for _, name := range []string{"!", "Aa", "}", "~"} {
		wantDone(t, d, appended(name, "x"), dkFull)
		wantDone(t, d, appended(name, ""), dkFull)
		wantDone(t, d, renamed(name, "A"), dkNone)
		wantDone(t, d, renamed("B", name), dkOk)
		wantDone(t, wantDone(t, d, removed("B"), dkOk), appended(name, "x"), dkOk)
		wantDone(t, wantDone(t, d, renamed("B", "C"), dkOk), appended(name, "x"), dkOk)
	}
	wantDone(t, d, appended("A", "x"), dkOk)
	wantDone(t, d, renamed("A", "B"), dkOk)
	wantDone(t, d, impl.DOp{Kind: dkAppend, Name: "~", To: "A"}, dkForm)
}

func TestNumbersOfBytes(t *testing.T) {
	for _, n := range []int{0, 1, 2, maxBytes - 1, maxBytes} {
		for _, more := range []int{0, 1, 2, 3, maxBytes - 1, maxBytes, maxBytes + 1, 2 * maxBytes} {
			d, code := driveOf(setOf(sized(n))), int64(dkOk)
			if n+more > maxBytes {
				code = dkFull
			}
			for _, name := range []string{"a", "b", "c", "d"} {
				wantDone(t, d, appended(name, strings.Repeat("z", more)), code)
			}
		}
	}
	d := driveOf(setOf(sized(maxBytes)))
	wantDone(t, d, renamed("a", "d"), dkOk)
	wantDone(t, d, renamed("a", "c"), dkOk)
	wantDone(t, d, removed("b"), dkOk)
	wantDone(t, d, removed("d"), dkNone)
	wantDone(t, d, impl.DOp{Kind: dkRemove, Name: "a", Data: strings.Repeat("z", maxBytes+1)}, dkForm)
	wantDone(t, wantDone(t, d, renamed("a", "b"), dkOk), appended("b", "z"), dkFull)
	wantDone(t, wantDone(t, d, renamed("b", "a"), dkOk), appended("b", "z"), dkOk)
}

func names() []string {
	return []string{"a", "a.new", "b", "log", "log.new", "z"}
}

func randomOp(r *rand.Rand) impl.DOp {
	name, to := names()[r.IntN(6)], names()[r.IntN(6)]
	switch r.IntN(20) {
	case 0:
		return forms()[r.IntN(len(forms()))]
	case 1, 2, 3, 4:
		return renamed(name, to)
	case 5, 6:
		return removed(name)
	}
	return appended(name, randomDigits(r, r.IntN(5)))
}

// randomDrives returns drives with up to n operations.
func randomDrives(r *rand.Rand, many, n int) []drive {
	var out []drive
	for range many {
		d := driveOf(nil)
		for range r.IntN(8) {
			d, _ = d.done(randomOp(r))
		}
		d = driveOf(d.live)
		for range r.IntN(n + 1) {
			d, _ = d.done(randomOp(r))
		}
		out = append(out, d)
	}
	return out
}

func TestRandomOperations(t *testing.T) {
	r := numbers()
	seen := map[int64]int{}
	for range 20 {
		d, x := driveOf(nil), impl.Disk{}
		for range 300 {
			op := randomOp(r)
			next, code := d.done(op)
			wantDone(t, d, op, code)
			got, c := impl.Do(x, op)
			if c != code {
				t.Fatal(op, c, code)
			}
			wantDisk(t, got, next)
			d, x = next, got
			seen[code]++
			if r.IntN(100) == 0 {
				d, x = driveOf(d.live), impl.Sync(x)
				wantDisk(t, x, d)
			}
		}
	}
	for code := range int64(4) {
		if code != dkDisk && seen[code] < 100 {
			t.Error("few cases of one code:", seen)
		}
	}
}

func TestEffectOfAnOperationIsSeen(t *testing.T) {
	r := numbers()
	for _, d := range randomDrives(r, 200, 12) {
		for _, op := range []impl.DOp{appended(names()[r.IntN(6)], "end"), renamed(names()[r.IntN(6)], names()[r.IntN(6)]), removed(names()[r.IntN(6)])} {
			before, existed := impl.ReadFile(d.disk(), op.Name)
			got, code := impl.Do(d.disk(), op)
			if code != dkOk {
				continue
			}
			after, exists := impl.ReadFile(got, op.Name)
			to, found := impl.ReadFile(got, op.To)
			switch op.Kind {
			case dkAppend:
				if !exists || after != before+"end" {
					t.Fatal(op, before, after)
				}
			case dkRename:
				if !existed || !found || to != before || exists != (op.Name == op.To) {
					t.Fatal(op, before, to)
				}
			case dkRemove:
				if !existed || exists {
					t.Fatal(op, after)
				}
			}
			if !slices.Equal(got.Ops, append(d.disk().Ops, op)) || !slices.Equal(got.Safe, d.safe.files()) {
				t.Fatal(short(got))
			}
		}
	}
}

func TestSync(t *testing.T) {
	for _, d := range randomDrives(numbers(), 300, 20) {
		wantDisk(t, impl.Sync(d.disk()), driveOf(d.live))
	}
	wantZeroDisk(t, impl.Sync(impl.Disk{}))
}

// subsets returns all strictly increasing lists of indexes less than n.
func subsets(n int) [][]int64 {
	var out [][]int64
	for mask := range 1 << n {
		var keep []int64
		for i := range n {
			if mask>>i&1 == 1 {
				keep = append(keep, int64(i))
			}
		}
		out = append(out, keep)
	}
	return out
}

func TestEachLossOfPower(t *testing.T) {
	for _, d := range randomDrives(numbers(), 60, 8) {
		for _, keep := range subsets(len(d.ops)) {
			for _, torn := range []int64{0, 1, 2, 3, 4, 5, 99, maxInt} {
				if !wantCrashed(t, d, keep, torn) {
					t.Fatal("no disk", keep, torn, d)
				}
			}
			wantNotCrashed(t, d, keep, -1)
		}
	}
}

func TestAllOrNoOperationsAreKept(t *testing.T) {
	for _, d := range append(randomDrives(numbers(), 200, 60), fullDrives(t)...) {
		all := idsInSteps(len(d.ops), 0, 1)
		longest := int64(0)
		for _, op := range d.ops {
			longest = max(longest, int64(len(op.Data)))
		}
		for _, torn := range []int64{longest, longest + 1, maxInt} {
			got, ok := impl.Crash(d.disk(), all, torn)
			if !ok || !sameDisk(got, impl.Sync(d.disk())) || !slices.Equal(got.Live, d.live.files()) {
				t.Fatal(ok, short(got), short(d))
			}
		}
		for _, torn := range []int64{0, 1, maxInt} {
			got, ok := impl.Crash(d.disk(), nil, torn)
			if !ok || !slices.Equal(got.Live, d.safe.files()) || !slices.Equal(got.Safe, d.safe.files()) || len(got.Ops) > 0 {
				t.Fatal(ok, short(got), short(d))
			}
		}
	}
}

// fullDrives returns drives that have as much as possible of something.
func fullDrives(t *testing.T) []drive {
	files, long := driveOf(setOf(named(maxFiles, "x"))), driveOf(setOf(sized(maxBytes)))
	ops := drive{live: fileSet{"a": "d"}, safe: fileSet{"a": "d"}, ops: opsOf(maxOps)}
	return []drive{
		files,
		long,
		ops,
		files.after(t, removed("f07"), appended("g", "y"), renamed("g", "f07"), appended("f08", "y")),
		long.after(t, removed("a"), appended("d", strings.Repeat("z", maxBytes/3)), renamed("d", "c")),
	}
}

func TestTornAppends(t *testing.T) {
	d := driveOf(fileSet{"a": "12"}).after(t, appended("a", "34"), appended("b", "5"), removed("b"), appended("b", "678"), renamed("b", "c"))
	for _, x := range []struct {
		keep []int64
		torn int64
		want fileSet
	}{
		{nil, 0, fileSet{"a": "12"}},
		{[]int64{0}, 0, fileSet{"a": "12"}},
		{[]int64{0}, 1, fileSet{"a": "123"}},
		{[]int64{0}, 2, fileSet{"a": "1234"}},
		{[]int64{0}, 3, fileSet{"a": "1234"}},
		{[]int64{0}, maxInt, fileSet{"a": "1234"}},
		{[]int64{1}, 0, fileSet{"a": "12", "b": ""}},
		{[]int64{1}, 1, fileSet{"a": "12", "b": "5"}},
		{[]int64{0, 1}, 0, fileSet{"a": "1234", "b": ""}},
		{[]int64{3}, 2, fileSet{"a": "12", "b": "67"}},
		{[]int64{1, 3}, 2, fileSet{"a": "12", "b": "567"}},
		{[]int64{1, 3}, 3, fileSet{"a": "12", "b": "5678"}},
		// Only the last operation that is kept is torn, if it is an append.
		{[]int64{0, 2}, 0, fileSet{"a": "1234"}},
		{[]int64{1, 2}, 0, fileSet{"a": "12"}},
		{[]int64{3, 4}, 0, fileSet{"a": "12", "c": "678"}},
		{[]int64{1, 4}, 0, fileSet{"a": "12", "c": "5"}},
		// These find no file.
		{[]int64{2}, 0, fileSet{"a": "12"}},
		{[]int64{4}, 0, fileSet{"a": "12"}},
		{[]int64{2, 4}, 9, fileSet{"a": "12"}},
		{[]int64{2, 3}, 9, fileSet{"a": "12", "b": "678"}},
		{[]int64{1, 2, 4}, 9, fileSet{"a": "12"}},
		{[]int64{0, 1, 2, 3, 4}, 0, fileSet{"a": "1234", "c": "678"}},
	} {
		got, ok := impl.Crash(d.disk(), x.keep, x.torn)
		if !ok {
			t.Fatal(x)
		}
		wantDisk(t, got, driveOf(x.want))
		wantCrashed(t, d, x.keep, x.torn)
	}
}

// TestRenamesThatFindNoFile has a file To, which is not replaced then.
func TestRenamesThatFindNoFile(t *testing.T) {
	d := driveOf(fileSet{"log": "old"}).after(t, appended("new", "1"), renamed("new", "log"), appended("log", "2"))
	for _, x := range []struct {
		keep []int64
		want fileSet
	}{
		{[]int64{1}, fileSet{"log": "old"}},
		{[]int64{2}, fileSet{"log": "old2"}},
		{[]int64{1, 2}, fileSet{"log": "old2"}},
		{[]int64{0, 1}, fileSet{"log": "1"}},
		{[]int64{0, 2}, fileSet{"log": "old2", "new": "1"}},
		{[]int64{0, 1, 2}, fileSet{"log": "12"}},
	} {
		got, ok := impl.Crash(d.disk(), x.keep, 9)
		if !ok {
			t.Fatal(x)
		}
		wantDisk(t, got, driveOf(x.want))
	}
}

func TestIndexesOfCrash(t *testing.T) {
	d := driveOf(nil)
	for n := range 5 {
		for _, keep := range [][]int64{{-1}, {minInt}, {int64(n)}, {int64(n) + 1}, {maxInt}, {0, 0}, {1, 0}, {0, 1, 1}, {0, 2, 1}, {1, 2, 0}, {3, 1}, {-1, 0}, {-2, -1}, {minInt, maxInt}, {0, int64(n)}, {0, 1, int64(n)}, {0, 1, 2, 3, int64(n)}, {2, 2}, make([]int64, 300)} {
			wantNotCrashed(t, d, keep, 99)
			wantNotCrashed(t, d, keep, 0)
		}
		for _, keep := range subsets(5) {
			ok := wantCrashed(t, d, keep, 99)
			if want := len(keep) == 0 || keep[len(keep)-1] < int64(n); ok != want {
				t.Error(n, keep, ok)
			}
		}
		for _, torn := range []int64{-1, -2, minInt} {
			wantNotCrashed(t, d, nil, torn)
			wantNotCrashed(t, d, idsInSteps(n, 0, 1), torn)
		}
		d = d.after(t, appended("a", string(rune('0'+n))))
	}
}

// TestResultOfCrashThatIsNotValid keeps an append without the removal that made
// room for it.
func TestResultOfCrashThatIsNotValid(t *testing.T) {
	files := driveOf(setOf(named(maxFiles, "x"))).after(t, removed("f07"), appended("g", "yz"), renamed("g", "f09"))
	wantNotCrashed(t, files, []int64{1}, 99)
	wantNotCrashed(t, files, []int64{1}, 0)
	for _, keep := range [][]int64{{0}, {2}, {0, 1}, {0, 2}, {1, 2}, {0, 1, 2}} {
		if !wantCrashed(t, files, keep, 99) {
			t.Error(keep)
		}
	}
	bytes := driveOf(setOf(sized(maxBytes))).after(t, removed("a"), appended("d", "yz"), renamed("d", "c"))
	wantNotCrashed(t, bytes, []int64{1}, 99)
	wantNotCrashed(t, bytes, []int64{1}, 2)
	wantNotCrashed(t, bytes, []int64{1}, 1)
	for _, keep := range [][]int64{{0}, {2}, {0, 1}, {0, 2}, {1, 2}, {0, 1, 2}} {
		if !wantCrashed(t, bytes, keep, 99) {
			t.Error(keep)
		}
	}
	// The part that is not torn may still fit.
	if !wantCrashed(t, bytes, []int64{1}, 0) {
		t.Error("no Data are too many")
	}
	bytes = driveOf(setOf(sized(maxBytes-1))).after(t, removed("a"), appended("d", "yz"))
	if wantNotCrashed(t, bytes, []int64{1}, 2); !wantCrashed(t, bytes, []int64{1}, 1) {
		t.Error("one byte is too many")
	}
}

// TestDisksInBetween has operations that are kept and make a list of files
// which is not valid, as long as another one does not follow.
func TestDisksInBetween(t *testing.T) {
	full := driveOf(setOf(named(maxFiles, "x"))).after(t, removed("f07"), appended("g", "y"), removed("g"))
	wantNotCrashed(t, full, []int64{1}, 9)
	if !wantCrashed(t, full, []int64{1, 2}, 9) {
		t.Error("the list of files is valid in the end")
	}
	long := driveOf(setOf(sized(maxBytes))).after(t, removed("a"), appended("b", "y"), removed("b"))
	wantNotCrashed(t, long, []int64{1}, 9)
	if !wantCrashed(t, long, []int64{1, 2}, 9) {
		t.Error("the list of files is valid in the end")
	}
}

func TestDisksExample(t *testing.T) {
	d := driveOf(fileSet{"log": "ab"}).after(t, appended("log", "cd"), appended("b", "x"))
	a, ok := impl.Crash(d.disk(), []int64{0}, 1)
	if !ok {
		t.Fatal("no disk")
	}
	wantDisk(t, a, driveOf(fileSet{"log": "abc"}))
	wantFile(t, d.disk(), "log", "abcd", true)
	wantFile(t, a, "b", "", false)
	synced := impl.Sync(d.disk())
	got, code := impl.Replace(synced, "log", "new")
	if code != dkOk || len(got.Ops) != 2 || got.Safe[1].Data != "abcd" {
		t.Error(code, got)
	}
	wantFile(t, got, "log", "new", true)
	wantFile(t, got, "b", "x", true)
}

func TestReadFile(t *testing.T) {
	for _, d := range append(randomDrives(numbers(), 100, 20), fullDrives(t)...) {
		x := d.disk()
		for _, name := range append(names(), "", "A", "aa", "log.", "lo", "f00", "f59", "f60", strings.Repeat("a", 100), strings.Repeat("a", 101)) {
			data, found := d.live[name]
			wantFile(t, x, name, data, found)
		}
	}
	wantFile(t, impl.Disk{}, "", "", false)
	wantFile(t, impl.Disk{}, "a", "", false)
}

func TestRandomReplacements(t *testing.T) {
	r := numbers()
	seen := map[int64]int{}
	for _, d := range append(randomDrives(r, 300, 20), fullDrives(t)...) {
		for _, name := range append(names(), "a.new.new", "f00", "c", "", strings.Repeat("n", 96), strings.Repeat("n", 97)) {
			data := randomDigits(r, r.IntN(6))
			_, code := d.replaced(name, data)
			wantReplaced(t, d, name, data, code)
			seen[code]++
		}
	}
	if seen[dkOk] < 1000 || seen[dkForm] < 300 || seen[dkFull] < 20 || seen[dkNone] > 0 {
		t.Error(seen)
	}
}

func TestNamesOfReplacedFiles(t *testing.T) {
	at := func(n int) string { return strings.Repeat("n", n) }
	for _, d := range []drive{driveOf(nil), driveOf(fileSet{at(96): "old", at(97): "old", at(100): "old", ".new": "old"})} {
		wantReplaced(t, d, "a", "x", dkOk)
		wantReplaced(t, d, at(95), "x", dkOk)
		wantReplaced(t, d, at(96), "x", dkOk)
		wantReplaced(t, d, at(97), "x", dkForm)
		wantReplaced(t, d, at(100), "x", dkForm)
		wantReplaced(t, d, at(101), "x", dkForm)
		wantReplaced(t, d, at(1000), "x", dkForm)
		wantReplaced(t, d, "", "x", dkForm)
		wantReplaced(t, d, ".new", "x", dkOk)
	}
}

func TestFilesUnderTheTemporaryName(t *testing.T) {
	with := driveOf(fileSet{"a": "old", "a.new": "left"})
	d := wantReplaced(t, with, "a", "x", dkOk)
	if !slices.Equal(d.ops, []impl.DOp{removed("a.new"), appended("a.new", "x"), renamed("a.new", "a")}) {
		t.Error(d.ops)
	}
	without := driveOf(fileSet{"a": "old", "a.new2": "left"})
	d = wantReplaced(t, without, "a", "x", dkOk)
	if !slices.Equal(d.ops, []impl.DOp{appended("a.new", "x"), renamed("a.new", "a")}) {
		t.Error(d.ops)
	}
	// That of a.new is another one.
	d = wantReplaced(t, with, "a.new", "x", dkOk)
	if !maps.Equal(d.live, fileSet{"a": "old", "a.new": "x"}) || len(d.ops) != 2 {
		t.Error(d)
	}
	d = wantReplaced(t, without, "b", "", dkOk)
	if !maps.Equal(d.live, fileSet{"a": "old", "a.new2": "left", "b": ""}) {
		t.Error(d)
	}
}

// TestReplaceOnFullDisks rejects the second or the third operation, so that the
// disk must become again what it was.
func TestReplaceOnFullDisks(t *testing.T) {
	for n := maxOps - 4; n <= maxOps; n++ {
		files := fileSet{"a": "d", "a.new": "left"}
		d := drive{live: files, safe: files, ops: opsOf(n)}
		wantReplaced(t, d, "a", "x", map[bool]int64{true: dkOk, false: dkFull}[n+3 <= maxOps])
		wantReplaced(t, d, "b", "x", map[bool]int64{true: dkOk, false: dkFull}[n+2 <= maxOps])
		// The name is not valid for the last operation only.
		wantReplaced(t, d, "", "x", map[bool]int64{true: dkForm, false: dkFull}[n+1 <= maxOps])
		wantReplaced(t, d, strings.Repeat("n", 97), "x", dkForm)
	}
	for _, n := range []int{maxFiles - 1, maxFiles} {
		s := setOf(named(n, ""))
		code := map[bool]int64{true: dkOk, false: dkFull}[n < maxFiles]
		wantReplaced(t, driveOf(s), "f00", "x", code)
		wantReplaced(t, driveOf(s), "g", "x", code)
		delete(s, "f01")
		s["f00.new"] = "left"
		wantReplaced(t, driveOf(s), "f00", "x", dkOk)
	}
	for _, n := range []int{0, 1, 5, 6} {
		d := driveOf(fileSet{"a": strings.Repeat("x", maxBytes-9), "b": "12345", "b.new": strings.Repeat("y", 4-n%5)})
		for more := range 12 {
			wantReplaced(t, d, "b", strings.Repeat("z", more), map[bool]int64{true: dkOk, false: dkFull}[more <= 4])
			wantReplaced(t, d, "a", strings.Repeat("z", more), map[bool]int64{true: dkOk, false: dkFull}[more <= n%5])
		}
	}
}

// TestReplacedFileHasTheOldOrTheNewContents loses the power with each part of
// the operations kept, and with an append that is torn anywhere.
func TestReplacedFileHasTheOldOrTheNewContents(t *testing.T) {
	unchanged, changed := 0, 0
	for _, before := range []fileSet{{}, {"a": ""}, {"a": "old"}, {"a": "old", "b": "other", "z": ""}, {"b": "a.new", "b.new": "left"}} {
		for _, data := range []string{"", "n", "new", "old and new"} {
			d, code := impl.Replace(driveOf(before).disk(), "a", data)
			if code != dkOk || len(d.Ops) != 2 {
				t.Fatal(code, d)
			}
			for _, keep := range subsets(len(d.Ops)) {
				for torn := range int64(len(data) + 2) {
					got, ok := impl.Crash(d, keep, torn)
					if !ok {
						t.Fatal(keep, torn, d)
					}
					after := setOf(got.Live)
					delete(after, "a.new")
					replaced := maps.Clone(before)
					replaced["a"] = data
					switch {
					case maps.Equal(after, before):
						unchanged++
					case maps.Equal(after, replaced) && len(keep) == 2:
						changed++
					default:
						t.Fatal(keep, torn, d, got)
					}
				}
			}
		}
	}
	if unchanged < 100 || changed < 50 {
		t.Error("few cases of one kind:", unchanged, changed)
	}
}

// spaciousDisk returns a disk like d of which each list has spare elements.
func spaciousDisk(d impl.Disk) impl.Disk {
	files := []impl.File{{Name: "spare", Data: "1"}, {Name: "a", Data: "2"}}
	d.Live, _ = withSpare(d.Live, files...)
	d.Safe, _ = withSpare(d.Safe, files...)
	d.Ops, _ = withSpare(d.Ops, appended("a", "spare"), removed("b"))
	return d
}

// ownOp returns an operation like op whose strings are its own.
func ownOp(op impl.DOp) impl.DOp {
	return impl.DOp{Kind: op.Kind, Name: strings.Clone(op.Name), To: strings.Clone(op.To), Data: strings.Clone(op.Data)}
}

// someDisks returns disks that are valid and others.
func someDisks(t *testing.T) []impl.Disk {
	var out []impl.Disk
	for _, d := range append(randomDrives(numbers(), 30, 8), fullDrives(t)...) {
		out = append(out, d.disk())
	}
	for _, l := range invalidFiles() {
		out = append(out, impl.Disk{Live: l, Safe: l}, impl.Disk{Live: l[:1], Safe: l, Ops: []impl.DOp{removed("a")}})
	}
	return out
}

func TestDisksAreNotModified(t *testing.T) {
	r := numbers()
	for _, d := range someDisks(t) {
		d = spaciousDisk(d)
		unchanged := wantUnchanged(t, d)
		impl.DiskOk(d)
		wantOwnMemory(t, impl.Sync(d), d, impl.Sync(d))
		for range 20 {
			op := ownOp(randomOp(r))
			one, code := impl.Do(d, op)
			two, again := impl.Do(d, op)
			wantOwnMemory(t, one, d, op, two)
			if code != again || !sameDisk(one, two) {
				t.Error("other results for equal arguments", op, code, again)
			}
		}
		for _, keep := range subsets(min(len(d.Ops), 5)) {
			keep, _ = withSpare(keep, 0, 1, 2)
			unchangedKeep := wantUnchanged(t, keep)
			for _, torn := range []int64{-1, 0, 1, 99} {
				one, ok := impl.Crash(d, keep, torn)
				two, again := impl.Crash(d, keep, torn)
				wantOwnMemory(t, one, d, keep, two)
				if ok != again || !sameDisk(one, two) {
					t.Error("other results for equal arguments", keep, torn)
				}
			}
			unchangedKeep()
		}
		for _, name := range append(names(), "f00", "f01", strings.Repeat("n", 97)) {
			s, _ := impl.ReadFile(d, name)
			wantOwnMemory(t, s, d, name)
			name, data := strings.Clone(name), strings.Clone("data")
			one, code := impl.Replace(d, name, data)
			two, again := impl.Replace(d, name, data)
			wantOwnMemory(t, one, d, name, data, two)
			if code != again || !sameDisk(one, two) {
				t.Error("other results for equal arguments", name, code, again)
			}
		}
		unchanged()
	}
}
