package tests

import (
	"go/ast"
	"go/parser"
	"go/token"
	"maps"
	"path/filepath"
	"reflect"
	"slices"
	"testing"
)

// exportedIn are the functions that the program hands out, read from its files.
func exportedIn(t *testing.T, folder string) []string {
	t.Helper()
	files, err := filepath.Glob(filepath.Join(folder, "*.go"))
	if err != nil || len(files) != 20 {
		t.Fatal(files, err)
	}
	names := []string{}
	for _, file := range files {
		tree, err := parser.ParseFile(token.NewFileSet(), file, nil, 0)
		if err != nil {
			t.Fatal(err)
		}
		for _, d := range tree.Decls {
			if f, is := d.(*ast.FuncDecl); is && f.Recv == nil && f.Name.IsExported() {
				names = append(names, f.Name.Name)
			}
		}
	}
	slices.Sort(names)
	return names
}

func TestEveryFunctionIsAsked(t *testing.T) {
	if names := exportedIn(t, "../impl"); !slices.Equal(names, slices.Sorted(maps.Keys(everyFunction))) {
		t.Fatal(names)
	}
}

// eachFunction asks each of them with dice of its own, side by side.
func eachFunction(t *testing.T, ask func(t *testing.T, a *asked, d *dice)) {
	t.Helper()
	for i, name := range slices.Sorted(maps.Keys(everyFunction)) {
		t.Run(name, func(t *testing.T) {
			t.Parallel()
			ask(t, newAsked(name), &dice{n: int64(i)})
		})
	}
}

// Each argument at each of its edges, those beside it by dice: more often where there are few edges.
func TestEveryFunctionAtItsEdges(t *testing.T) {
	every := everyArgument(t)
	eachFunction(t, func(t *testing.T, a *asked, d *dice) {
		for i, edged := range a.takes() {
			for _, edge := range every[edged].edges {
				for range 1 + 300/len(every[edged].edges) {
					args := []reflect.Value{}
					for j, kind := range a.takes() {
						if i == j {
							args = append(args, edge)
						} else {
							args = append(args, reflect.ValueOf(every[kind].any(d)))
						}
					}
					a.check(t, args)
				}
			}
		}
	})
}

// Two arguments at their edges.
func TestEveryFunctionAtTwoEdges(t *testing.T) {
	every := everyArgument(t)
	eachFunction(t, func(t *testing.T, a *asked, d *dice) {
		for range 600 {
			args := []reflect.Value{}
			for _, kind := range a.takes() {
				edges := every[kind].edges
				args = append(args, edges[d.roll(int64(len(edges)))])
			}
			a.check(t, args)
		}
	})
}

// All arguments by dice: of each function many are answered with something.
func TestEveryFunctionByDice(t *testing.T) {
	every := everyArgument(t)
	eachFunction(t, func(t *testing.T, a *asked, d *dice) {
		for turn := range 1000 {
			args := edgesOf(d.apt(a.name))
			if turn%2 == 0 || len(args) == 0 {
				args = nil
				for _, kind := range a.takes() {
					args = append(args, reflect.ValueOf(every[kind].any(d)))
				}
			}
			a.check(t, args)
		}
		if a.told < 100 || a.tellsLists() && a.lists < 100 {
			t.Errorf("only %d of %s are answered with something, %d with a list", a.told, a.name, a.lists)
		}
	})
}
