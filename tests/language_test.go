package tests

import (
	"bytes"
	"go/ast"
	"go/format"
	"go/parser"
	"go/token"
	"os"
	"path/filepath"
	"slices"
	"strconv"
	"strings"
	"testing"
)

// The program keeps to the language page: its imports, its layout, the length of its functions.

var allowedImports = strings.Fields("bytes cmp container/heap errors iter maps math math/bits slices sort strconv strings sync sync/atomic unicode unicode/utf8")

func programFiles(t *testing.T) []string {
	t.Helper()
	files, err := filepath.Glob("../impl/*.go")
	if err != nil || len(files) == 0 {
		t.Fatalf("no files of the program: %v", err)
	}
	return files
}

func TestProgramKeepsToTheLanguage(t *testing.T) {
	for _, path := range programFiles(t) {
		text, err := os.ReadFile(path)
		if err != nil {
			t.Fatal(err)
		}
		if tidy, err := format.Source(text); err != nil || !bytes.Equal(tidy, text) {
			t.Errorf("%s: not in gofmt's layout", path)
		}
		if bytes.Contains(text, []byte("//go:")) || bytes.Contains(text, []byte("// +build")) {
			t.Errorf("%s: a line to the compiler", path)
		}
		set := token.NewFileSet()
		file, err := parser.ParseFile(set, path, text, 0)
		if err != nil {
			t.Fatal(err)
		}
		for _, i := range file.Imports {
			if name, _ := strconv.Unquote(i.Path.Value); !slices.Contains(allowedImports, name) {
				t.Errorf("%s: imports %s", path, name)
			}
		}
		wantShortFunctions(t, set, file)
	}
}

func wantShortFunctions(t *testing.T, set *token.FileSet, file *ast.File) {
	t.Helper()
	for _, d := range file.Decls {
		if f, ok := d.(*ast.FuncDecl); ok {
			if n := set.Position(f.End()).Line - set.Position(f.Pos()).Line + 1; n > 60 {
				t.Errorf("%s: %d lines", f.Name.Name, n)
			}
		}
	}
}

// wayOf counts in a file of the program the places at which is holds.
func wayOf(t *testing.T, path string, is func(n ast.Node) bool) int {
	t.Helper()
	file, err := parser.ParseFile(token.NewFileSet(), path, nil, 0)
	if err != nil {
		t.Fatal(err)
	}
	count := 0
	ast.Inspect(file, func(n ast.Node) bool {
		if n != nil && is(n) {
			count++
		}
		return true
	})
	return count
}

func isArray(n ast.Node) bool {
	x, ok := n.(*ast.ArrayType)
	return ok && x.Len != nil
}

func isGoto(n ast.Node) bool {
	x, ok := n.(*ast.BranchStmt)
	return ok && x.Tok == token.GOTO
}

func isName(names ...string) func(n ast.Node) bool {
	return func(n ast.Node) bool {
		x, ok := n.(*ast.Ident)
		return ok && slices.Contains(names, x.Name)
	}
}

func isGenericFunction(n ast.Node) bool {
	x, ok := n.(*ast.FuncDecl)
	return ok && x.Type.TypeParams.NumFields() > 0
}

// isCountedRange sees a range over a conversion or a length; what a name or a call answers, no text alone can tell.
func isCountedRange(n ast.Node) bool {
	x, ok := n.(*ast.RangeStmt)
	if !ok {
		return false
	}
	call, ok := x.X.(*ast.CallExpr)
	return ok && isName("int", "int64", "len")(call.Fun)
}

// Way 1: a block is told by complex numbers, and halves are arrays.
func TestWayOfTheDisk(t *testing.T) {
	path := "../impl/l01_disk.go"
	if wayOf(t, path, isArray) == 0 || wayOf(t, path, isName("complex")) == 0 {
		t.Error("no arrays or no complex numbers")
	}
}

// Way 2: a header is read by a machine with goto, and numbers are unsigned.
func TestWayOfHeaders(t *testing.T) {
	path := "../impl/l02_header.go"
	if wayOf(t, path, isGoto) == 0 || wayOf(t, path, isName("uint16", "uint32", "uint64")) == 0 {
		t.Error("no goto or no unsigned numbers")
	}
}

// Way 3: steps are told by a generic function; ranges are over integers.
func TestWayOfTheCircularLog(t *testing.T) {
	path := "../impl/l03_circ.go"
	if wayOf(t, path, isGenericFunction) == 0 || wayOf(t, path, isCountedRange) == 0 {
		t.Error("no generic function or no range over an integer")
	}
}

func isMap(n ast.Node) bool {
	_, ok := n.(*ast.MapType)
	return ok
}

func isCallOf(name string) func(n ast.Node) bool {
	return func(n ast.Node) bool {
		x, ok := n.(*ast.CallExpr)
		return ok && isName(name)(x.Fun)
	}
}

// Way 4: what is seen stands in a map, and one that is gone is deleted.
func TestWayOfWhatIsSeen(t *testing.T) {
	path := "../impl/l04_view.go"
	if wayOf(t, path, isMap) == 0 || wayOf(t, path, isCallOf("delete")) == 0 {
		t.Error("no map or no delete")
	}
}

func isEmbedding(n ast.Node) bool {
	x, ok := n.(*ast.StructType)
	return ok && slices.ContainsFunc(x.Fields.List, func(f *ast.Field) bool { return len(f.Names) == 0 })
}

func isMethod(n ast.Node) bool {
	x, ok := n.(*ast.FuncDecl)
	return ok && x.Recv != nil
}

// Way 5: words are copied; an object embeds its place, and has methods. That they are promoted, the given test of this stage asks.
func TestWayOfObjects(t *testing.T) {
	path := "../impl/l05_object.go"
	if wayOf(t, path, isCallOf("copy")) == 0 || wayOf(t, path, isEmbedding) == 0 || wayOf(t, path, isMethod) == 0 {
		t.Error("no copy, no embedding or no methods")
	}
}

// isStructMap sees a map whose keys are one of the named types.
func isStructMap(names ...string) func(n ast.Node) bool {
	return func(n ast.Node) bool {
		x, ok := n.(*ast.MapType)
		return ok && isName(names...)(x.Key)
	}
}

// structsIn tells the names of the struct types of a file of the program.
func structsIn(t *testing.T, path string) []string {
	t.Helper()
	var names []string
	wayOf(t, path, func(n ast.Node) bool {
		x, ok := n.(*ast.TypeSpec)
		if !ok {
			return false
		}
		if _, ok = x.Type.(*ast.StructType); ok {
			names = append(names, x.Name.Name)
		}
		return ok
	})
	return names
}

// Way 6: who has what is a map with structs as keys, and what is free is cleared.
func TestWayOfLocks(t *testing.T) {
	path := "../impl/l06_lock.go"
	if wayOf(t, path, isStructMap(structsIn(t, path)...)) == 0 || wayOf(t, path, isCallOf("clear")) == 0 {
		t.Error("no map with structs as keys or no clear")
	}
}

func isFunctionType(n ast.Node) bool {
	x, ok := n.(*ast.TypeSpec)
	if !ok {
		return false
	}
	_, ok = x.Type.(*ast.FuncType)
	return ok
}

func isClosure(n ast.Node) bool {
	_, ok := n.(*ast.FuncLit)
	return ok
}

// Way 7: which are taken is a closure.
func TestWayOfFreeBlocks(t *testing.T) {
	path := "../impl/l07_alloc.go"
	if wayOf(t, path, isFunctionType) == 0 || wayOf(t, path, isClosure) == 0 {
		t.Error("no closure")
	}
}

// isPointerTo sees a pointer to the named type.
func isPointerTo(name string) func(n ast.Node) bool {
	return func(n ast.Node) bool {
		x, ok := n.(*ast.StarExpr)
		return ok && isName(name)(x.X)
	}
}

// Way 8: a file is pointed at. That structs are compared, the given test of this stage asks.
func TestWayOfFiles(t *testing.T) {
	path := "../impl/l08_file.go"
	if wayOf(t, path, isPointerTo("File")) == 0 || !slices.Contains(structsIn(t, path), "label") {
		t.Error("no file is pointed at, or there is nothing to compare")
	}
}

// isDeferredRecover sees a function literal that is deferred and calls recover.
func isDeferredRecover(n ast.Node) bool {
	x, ok := n.(*ast.DeferStmt)
	if !ok {
		return false
	}
	body, ok := x.Call.Fun.(*ast.FuncLit)
	if !ok {
		return false
	}
	found := false
	ast.Inspect(body, func(n ast.Node) bool {
		found = found || isCallOf("recover")(n)
		return true
	})
	return found
}

// isFaceThatRecovers sees an exported function that recovers by itself.
func isFaceThatRecovers(n ast.Node) bool {
	x, ok := n.(*ast.FuncDecl)
	return ok && x.Name.IsExported() && slices.ContainsFunc(x.Body.List, func(s ast.Stmt) bool { return isDeferredRecover(s) })
}

// Way 9: what cannot be read is a panic, recovered at the face.
func TestWayOfEntries(t *testing.T) {
	path := "../impl/l09_entry.go"
	if wayOf(t, path, isCallOf("panic")) == 0 || wayOf(t, path, isFaceThatRecovers) == 0 {
		t.Error("no panic, or it is not recovered at the face")
	}
}

func isGenericType(n ast.Node) bool {
	x, ok := n.(*ast.TypeSpec)
	return ok && x.TypeParams.NumFields() > 0
}

// isErrorType sees the method that makes a type an error.
func isErrorType(n ast.Node) bool {
	x, ok := n.(*ast.FuncDecl)
	return ok && x.Recv != nil && x.Name.Name == "Error"
}

// isCallIn sees a call of a function of a package.
func isCallIn(pack string, name string) func(n ast.Node) bool {
	return func(n ast.Node) bool {
		x, ok := n.(*ast.CallExpr)
		if !ok {
			return false
		}
		f, ok := x.Fun.(*ast.SelectorExpr)
		return ok && isName(pack)(f.X) && f.Sel.Name == name
	}
}

// Way 10: a log is a generic list; what is over is an error of its own, asked by errors.As.
func TestWayOfTheStoreOfANode(t *testing.T) {
	path := "../impl/l10_raft.go"
	if wayOf(t, path, isGenericType) == 0 || wayOf(t, path, isErrorType) == 0 || wayOf(t, path, isCallIn("errors", "As")) == 0 {
		t.Error("no generic list, no error of its own, or it is not asked by errors.As")
	}
}

// iteratorsIn tells the names of the functions of a file of the program that answer an iterator.
func iteratorsIn(t *testing.T, path string) []string {
	t.Helper()
	var names []string
	wayOf(t, path, func(n ast.Node) bool {
		x, ok := n.(*ast.FuncDecl)
		if !ok || x.Type.Results.NumFields() != 1 {
			return false
		}
		of, ok := x.Type.Results.List[0].Type.(*ast.IndexExpr)
		if !ok {
			return false
		}
		if seq, ok := of.X.(*ast.SelectorExpr); ok && isName("iter")(seq.X) {
			names = append(names, x.Name.Name)
		}
		return ok
	})
	return names
}

// isRangeOf sees a range over what one of the named functions answers.
func isRangeOf(names ...string) func(n ast.Node) bool {
	return func(n ast.Node) bool {
		x, ok := n.(*ast.RangeStmt)
		if !ok {
			return false
		}
		call, ok := x.X.(*ast.CallExpr)
		return ok && isName(names...)(call.Fun)
	}
}

// Way 11: blocks are told by an iterator that is ranged over.
func TestWayOfTheStoreInBlocks(t *testing.T) {
	path := "../impl/l11_image.go"
	if wayOf(t, path, isRangeOf(iteratorsIn(t, path)...)) == 0 {
		t.Error("no iterator, or it is not ranged over")
	}
}

func isFallthrough(n ast.Node) bool {
	x, ok := n.(*ast.BranchStmt)
	return ok && x.Tok == token.FALLTHROUGH
}

func isTypeSwitch(n ast.Node) bool {
	_, ok := n.(*ast.TypeSwitchStmt)
	return ok
}

// functionTypesIn tells the names of the function types of a file of the program.
func functionTypesIn(t *testing.T, path string) []string {
	t.Helper()
	var names []string
	wayOf(t, path, func(n ast.Node) bool {
		if isFunctionType(n) {
			names = append(names, n.(*ast.TypeSpec).Name.Name)
		}
		return true
	})
	return names
}

// isFunctionTable sees a table, inside a function, of values of the named function types.
func isFunctionTable(names ...string) func(n ast.Node) bool {
	return func(n ast.Node) bool {
		f, ok := n.(*ast.FuncDecl)
		if !ok {
			return false
		}
		found := false
		ast.Inspect(f, func(n ast.Node) bool {
			row, ok := n.(*ast.KeyValueExpr)
			found = found || ok && slices.ContainsFunc(names, func(name string) bool { return isCallOf(name)(row.Value) })
			return true
		})
		return found
	}
}

// Way 12: an operation is a type switch over an interface; kinds fall through; each is a function value in a table in a function.
func TestWayOfTransactions(t *testing.T) {
	path := "../impl/l12_txn.go"
	if wayOf(t, path, isTypeSwitch) == 0 || wayOf(t, path, isFallthrough) == 0 {
		t.Error("no type switch or no kind that falls through")
	}
	if wayOf(t, path, isFunctionTable(functionTypesIn(t, path)...)) == 0 {
		t.Error("no table of function values in a function")
	}
}

// isPutOff sees an exported function that opens something, and a function literal that is deferred there and makes its result of a method.
func isPutOff(n ast.Node) bool {
	x, ok := n.(*ast.FuncDecl)
	return ok && x.Name.IsExported() && slices.ContainsFunc(x.Body.List, isDeferredMethod)
}

func isDeferredMethod(s ast.Stmt) bool {
	x, ok := s.(*ast.DeferStmt)
	if !ok {
		return false
	}
	found := false
	ast.Inspect(x.Call.Fun, func(n ast.Node) bool {
		call, ok := n.(*ast.CallExpr)
		if ok {
			_, ok = call.Fun.(*ast.SelectorExpr)
		}
		found = found || ok
		return true
	})
	return found
}

// Way 13: what is open is put off by a deferred function.
func TestWayOfTheWorld(t *testing.T) {
	path := "../impl/l13_world.go"
	if wayOf(t, path, isPutOff) == 0 {
		t.Error("nothing that is open is put off by a deferred function")
	}
}

func isChannel(n ast.Node) bool {
	_, ok := n.(*ast.ChanType)
	return ok
}

// isHearing sees a function that makes a channel and ranges over it.
func isHearing(n ast.Node) bool {
	x, ok := n.(*ast.FuncDecl)
	if !ok {
		return false
	}
	names := []string{}
	heard := false
	ast.Inspect(x, func(n ast.Node) bool {
		if made, ok := n.(*ast.AssignStmt); ok && len(made.Lhs) == 1 && isMadeChannel(made.Rhs[0]) {
			names = append(names, made.Lhs[0].(*ast.Ident).Name)
		}
		if loop, ok := n.(*ast.RangeStmt); ok {
			heard = heard || isName(names...)(loop.X)
		}
		return true
	})
	return heard
}

func isMadeChannel(n ast.Expr) bool {
	call, ok := n.(*ast.CallExpr)
	return ok && isName("make")(call.Fun) && isChannel(call.Args[0])
}

// Way 14: RunSched alone hears its picks from a channel that is closed.
func TestWayOfWhoIsPicked(t *testing.T) {
	path := "../impl/l14_sched.go"
	isRun := func(n ast.Node) bool {
		x, ok := n.(*ast.FuncDecl)
		return ok && x.Name.Name == "RunSched" && isHearing(n)
	}
	if wayOf(t, path, isRun) != 1 || wayOf(t, path, isCallOf("close")) != 1 {
		t.Error("RunSched hears no picks, or they have no end")
	}
	for _, file := range programFiles(t) {
		if hearing := wayOf(t, file, isHearing); hearing > 0 && file != path {
			t.Errorf("%s: hears something as well", file)
		} else if hearing > 1 {
			t.Errorf("%s: RunSched is not alone", file)
		}
	}
}

// variadicsIn tells the names of the functions of a file of the program that take as many arguments as there are.
func variadicsIn(t *testing.T, path string) []string {
	t.Helper()
	var names []string
	wayOf(t, path, func(n ast.Node) bool {
		x, ok := n.(*ast.FuncDecl)
		if !ok || x.Type.Params.NumFields() == 0 {
			return false
		}
		params := x.Type.Params.List
		if _, ok = params[len(params)-1].Type.(*ast.Ellipsis); ok {
			names = append(names, x.Name.Name)
		}
		return ok
	})
	return names
}

// isLeavingBoth sees a loop that has a label, in which a loop is left together with it.
func isLeavingBoth(n ast.Node) bool {
	outer, ok := n.(*ast.LabeledStmt)
	if !ok {
		return false
	}
	left := false
	ast.Inspect(outer.Stmt, func(n ast.Node) bool {
		inner, ok := n.(*ast.RangeStmt)
		if !ok || n == outer.Stmt {
			return true
		}
		ast.Inspect(inner.Body, func(n ast.Node) bool {
			leave, ok := n.(*ast.BranchStmt)
			left = left || ok && leave.Tok == token.BREAK && leave.Label != nil && leave.Label.Name == outer.Label.Name
			return true
		})
		return true
	})
	return left
}

// Way 15: histories are told to a variadic function; a label leaves both loops.
func TestWayOfWhatItLooksLikeFromOutside(t *testing.T) {
	path := "../impl/l15_audit.go"
	isTelling := func(n ast.Node) bool {
		return slices.ContainsFunc(variadicsIn(t, path), func(name string) bool { return isCallOf(name)(n) })
	}
	if wayOf(t, path, isTelling) == 0 || wayOf(t, path, isLeavingBoth) == 0 {
		t.Error("no variadic function that is told something, or no label that leaves both loops")
	}
}

// methodsIn tells the names of the methods of a file of the program.
func methodsIn(t *testing.T, path string) []string {
	t.Helper()
	var names []string
	wayOf(t, path, func(n ast.Node) bool {
		if isMethod(n) {
			names = append(names, n.(*ast.FuncDecl).Name.Name)
		}
		return true
	})
	return names
}

// isMethodOf sees a method that is named behind one of these, and not called.
func isMethodOf(n ast.Node, methods []string, behind []string) bool {
	x, ok := n.(*ast.SelectorExpr)
	return ok && isName(behind...)(x.X) && slices.Contains(methods, x.Sel.Name)
}

// namesIn tells the names of the variables that a file of the program makes in its functions.
func namesIn(t *testing.T, path string) []string {
	t.Helper()
	var names []string
	wayOf(t, path, func(n ast.Node) bool {
		x, ok := n.(*ast.AssignStmt)
		if !ok || x.Tok != token.DEFINE {
			return false
		}
		for _, made := range x.Lhs {
			names = append(names, made.(*ast.Ident).Name)
		}
		return true
	})
	return names
}

// Way 16: commands are method expressions, a line is done by a method value; kinds are constants with iota.
func TestWayOfScripts(t *testing.T) {
	path := "../impl/l16_script.go"
	methods := methodsIn(t, path)
	isCommand := func(n ast.Node) bool {
		row, ok := n.(*ast.KeyValueExpr)
		return ok && isMethodOf(row.Value, methods, structsIn(t, path))
	}
	isDoing := func(n ast.Node) bool {
		call, ok := n.(*ast.CallExpr)
		return ok && slices.ContainsFunc(call.Args, func(arg ast.Expr) bool { return isMethodOf(arg, methods, namesIn(t, path)) })
	}
	if wayOf(t, path, isCommand) < 5 || wayOf(t, path, isDoing) == 0 || wayOf(t, path, isName("iota")) == 0 {
		t.Error("no commands that are method expressions, no line that is done by a method value, or no kinds with iota")
	}
}
