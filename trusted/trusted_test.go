package trusted_test

import (
	"reflect"
	"strings"
	"testing"

	"lazaret/api"
	"lazaret/policy"
	"lazaret/trusted"
)

func one(s string) api.Policy { return api.Policy{List: policy.One(s)} }

// P29.1: Parse.
func TestParse(t *testing.T) {
	for s, want := range map[string]trusted.Names{
		"": {}, "img-src *": {}, "trusted-types": {Has: true}, "trusted-types a 'Allow-Duplicates' !": {Has: true, Twice: true, List: []string{"a"}}, "trusted-types *": {Has: true, Any: true}, "trusted-types b a b": {Has: true, List: []string{"b", "a", "b"}}, "trusted-types 'none'": {Has: true}, "Trusted-Types A": {Has: true, List: []string{"A"}},
		"trusted-types a * 'allow-duplicates'": {Has: true, Any: true, Twice: true, List: []string{"a"}}, "trusted-types ** a*": {Has: true}, "trusted-types allow-duplicates": {Has: true, List: []string{"allow-duplicates"}}, "trusted-types 'allow-duplicates": {Has: true}, "trusted-types a; trusted-types b": {Has: true, List: []string{"a"}}, "require-trusted-types-for 'script'": {},
	} {
		if got := trusted.Parse(one(s)); !reflect.DeepEqual(got, want) {
			t.Errorf("Parse(%q) = %+v, want %+v", s, got, want)
		}
	}
	if got := trusted.Parse(api.Policy{List: []api.Directive{{Name: "trusted-types", Values: []string{"", " "}}}, Report: true}); !reflect.DeepEqual(got, trusted.Names{Has: true}) {
		t.Errorf("%+v", got)
	}
}

// P29.1: which bytes names have.
func TestNames(t *testing.T) {
	for c := range 256 {
		name := "x" + string([]byte{byte(c)})
		want := strings.IndexByte("-#=_/@.%0123456789ABCDEFGHIJKLMNOPQRSTUVWXYZabcdefghijklmnopqrstuvwxyz", byte(c)) >= 0
		got := trusted.Parse(api.Policy{List: []api.Directive{{Name: "trusted-types", Values: []string{name}}}})
		if (len(got.List) == 1) != want {
			t.Errorf("%q: %+v", name, got)
		}
	}
}

// P29.2: Creates.
func TestCreates(t *testing.T) {
	for _, x := range []struct {
		policy, name, there string
		want                bool
	}{
		{"", "a", "a", true}, {"img-src x", "", "", true}, {"trusted-types a 'allow-duplicates'", "a", "a", true}, {"trusted-types a 'allow-duplicates'", "b", "", false}, {"trusted-types a", "a", "", true}, {"trusted-types a", "a", "b", true}, {"trusted-types a", "a", "b a", false}, {"trusted-types a", "A", "", false}, {"trusted-types *", "b", "", true}, {"trusted-types *", "b", "b", false}, {"trusted-types * 'allow-duplicates'", "b", "b", true},
		{"trusted-types 'none'", "a", "", false}, {"trusted-types 'none'", "'none'", "", false}, {"trusted-types", "a", "", false}, {"trusted-types *", "!", "", true}, {"trusted-types !", "!", "", false}, {"trusted-types a", "", "", false},
	} {
		if got := trusted.Creates(one(x.policy), x.name, strings.Fields(x.there)); got != x.want {
			t.Errorf("%+v: %v", x, got)
		}
	}
}

// P29.3: Requires.
func TestRequires(t *testing.T) {
	for s, want := range map[string]bool{
		"": false, "require-trusted-types-for": false, "require-trusted-types-for 'SCRIPT'": true, "require-trusted-types-for x 'script'": true, "require-trusted-types-for script": false, "require-trusted-types-for 'scripts'": false, "trusted-types 'script'": false, "REQUIRE-TRUSTED-TYPES-FOR 'Script' y": true, "require-trusted-types-for 'x'; require-trusted-types-for 'script'": false,
	} {
		if got := trusted.Requires(one(s)); got != want {
			t.Errorf("Requires(%q) = %v", s, got)
		}
	}
}
