package chains_test

import (
	"slices"
	"strings"
	"testing"

	"lazaret/api"
	"lazaret/chains"
	"lazaret/policy"
)

var effective = map[int]string{
	api.ItScript: "script-src-elem", api.ItInline: "script-src-elem", api.ItJava: "script-src-elem", api.ItHandler: "script-src-attr", api.ItStyle: "style-src-elem", api.ItSheet: "style-src-elem", api.ItRule: "style-src-attr", api.ItImage: "img-src",
	api.ItFont: "font-src", api.ItMedia: "media-src", api.ItFrame: "frame-src", api.ItObject: "object-src", api.ItManifest: "manifest-src", api.ItConnect: "connect-src", api.ItBase: "base-uri", api.ItForm: "form-action",
}

var all = map[string]string{
	"script-src-elem": "script-src default-src", "script-src-attr": "script-src default-src", "style-src-elem": "style-src default-src", "style-src-attr": "style-src default-src", "worker-src": "child-src script-src default-src", "frame-src": "child-src default-src",
	"script-src": "default-src", "style-src": "default-src", "child-src": "default-src", "connect-src": "default-src", "manifest-src": "default-src", "object-src": "default-src", "font-src": "default-src", "img-src": "default-src", "media-src": "default-src",
	"default-src": "", "base-uri": "", "form-action": "", "": "", "x": "", "IMG-SRC": "", "frame-ancestors": "", "prefetch-src": "", "img-src ": "",
}

// P28.1: Effective.
func TestEffective(t *testing.T) {
	for kind := -3; kind < 20; kind++ {
		if got := chains.Effective(kind); got != effective[kind] {
			t.Errorf("Effective(%d) = %q", kind, got)
		}
	}
	if chains.Effective(1<<62) != "" || chains.Effective(-1<<62) != "" {
		t.Error("of none")
	}
}

// P28.2: Chain.
func TestChain(t *testing.T) {
	for name, more := range all {
		want := append([]string{name}, strings.Fields(more)...)
		got := chains.Chain(name)
		if !slices.Equal(got, want) {
			t.Errorf("Chain(%q) = %q", name, got)
		}
		got[0] = "changed"
		if !slices.Equal(chains.Chain(name), want) {
			t.Errorf("Chain(%q) is shared", name)
		}
	}
}

// P28.3: Find, with each directive of the chain, and those behind it.
func TestFind(t *testing.T) {
	for kind := -1; kind < 19; kind++ {
		name := effective[kind]
		chain := append([]string{name}, strings.Fields(all[name])...)
		if name == "" {
			chain = nil
		}
		for i := range chain {
			var list []api.Directive
			for _, n := range slices.Backward(chain[i:]) {
				list = append(list, api.Directive{Name: n, Values: []string{n + "!"}})
			}
			d, ok := chains.Find(api.Policy{List: list}, kind)
			if !ok || d.Name != chain[i] || !slices.Equal(d.Values, []string{chain[i] + "!"}) {
				t.Errorf("%d: %+v: %+v, %v", kind, list, d, ok)
			}
		}
		var others []api.Directive
		for n := range all {
			if !slices.Contains(chain, n) {
				others = append(others, api.Directive{Name: n})
			}
		}
		if d, ok := chains.Find(api.Policy{List: others}, kind); ok || d.Name != "" || d.Values != nil {
			t.Errorf("%d: %+v, %v", kind, d, ok)
		}
	}
	p := api.Policy{List: policy.One("default-src a; script-src b")}
	for kind, want := range map[int]string{api.ItInline: "script-src", api.ItImage: "default-src", api.ItBase: "", api.ItForm: "", api.ItStyle: "default-src"} {
		if d, ok := chains.Find(p, kind); d.Name != want || ok != (want != "") {
			t.Errorf("%d: %+v, %v", kind, d, ok)
		}
	}
}
