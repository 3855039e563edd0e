package whole

import (
	"math/rand"
	"slices"
	"strings"
	"testing"

	"dryshod/api"
	"dryshod/build"
	"dryshod/face"
	"dryshod/lex"
	"dryshod/order"
	"dryshod/syntax"
)

// tokensOf answers the tokens of a text, of which each is one again where a
// blank stands between two.
func tokensOf(text string) (tokens []string) {
	all, _ := lex.Scan(text)
	for _, token := range all {
		tokens = append(tokens, token.Text)
	}
	return tokens
}

// kindOf tells labels, names, numbers, signs between two expressions, and
// those ahead of one apart; 0 of all others, which are not changed.
func kindOf(token string) int {
	switch {
	case token == "low" || token == "high":
		return 1
	case syntax.IsName(token):
		return 2
	case token[0] >= '0' && token[0] <= '9':
		return 3
	case strings.Contains("+-*/%&|<==", token) && token != "=":
		return 4
	case token == "!":
		return 5
	}
	return 0
}

// changed answers a program in which so many tokens have become others of
// their kinds, mostly labels; whether it is one, who asks must see.
func changed(r *rand.Rand, texts []string, count int) []string {
	var modules [][]string
	kinds := map[int][]string{1: {"low", "high"}, 5: {"-", "!"}}
	for _, text := range texts {
		modules = append(modules, tokensOf(text))
		for _, token := range tokensOf(text) {
			if kind := kindOf(token); kind > 1 && kind < 5 {
				kinds[kind] = append(kinds[kind], token)
			}
		}
	}
	for count > 0 {
		tokens := modules[r.Intn(len(modules))]
		at := r.Intn(len(tokens))
		kind := kindOf(tokens[at])
		if kind == 0 || kind > 1 && r.Intn(3) > 0 {
			continue
		}
		tokens[at] = kinds[kind][r.Intn(len(kinds[kind]))]
		count--
	}
	var others []string
	for _, tokens := range modules {
		others = append(others, strings.Join(tokens, " "))
	}
	return others
}

// lowWriters answers the procedures of texts that write low, by the names of
// their modules, a point, and their own.
func lowWriters(texts []string) (names []string) {
	for _, text := range texts {
		module, _ := syntax.Parse(text)
		for _, kid := range module.Kids {
			if kid.Kind == api.NProc && face.ProcOf(kid).Writes == api.Low {
				names = append(names, module.Text+"."+kid.Text)
			}
		}
	}
	return names
}

// callsOne tells whether an expression of that module calls one of these.
func callsOne(n api.Node, module string, names []string) bool {
	name := n.Text
	if !strings.Contains(name, ".") {
		name = module + "." + name
	}
	return n.Kind == api.NCall && slices.Contains(names, name) ||
		slices.ContainsFunc(n.Kids, func(kid api.Node) bool { return callsOne(kid, module, names) })
}

// withoutLoops answers a node in which each loop that calls one of these as it
// asks has become a low local with what it asks.
func withoutLoops(n api.Node, module string, names []string) api.Node {
	if n.Kind == api.NWhile && callsOne(n.Kids[0], module, names) {
		n = api.Node{Kind: api.NIf, Kids: []api.Node{{Kind: api.NNumber}, {Kind: api.NBlock, Kids: []api.Node{{Kind: api.NLocal, Text: "asked", Kids: n.Kids[:1]}}}}}
	}
	var kids []api.Node
	for _, kid := range n.Kids {
		kids = append(kids, withoutLoops(kid, module, names))
	}
	n.Kids = kids
	return n
}

// isOpen tells whether a loop of a program without trouble asks something high,
// and calls what writes low as it asks: by E5 it may, and nothing is promised
// of it that could hold (README.md). What it asks is low, if and only if a low
// local may become it there.
func isOpen(texts []string) bool {
	var others []string
	for _, text := range texts {
		module, _ := syntax.Parse(text)
		other, _ := syntax.Print(withoutLoops(module, module.Text, lowWriters(texts)))
		others = append(others, other)
	}
	_, trouble := order.Order(others)
	return trouble.Code != api.OK
}

// isBuilt tells whether an image is built of texts. L3: that does not hang on
// how they stand.
func isBuilt(t *testing.T, texts []string) bool {
	t.Helper()
	_, trouble := build.Build(texts)
	other := slices.Concat(texts[1:], texts[:1])
	if _, second := build.Build(other); (trouble.Code == api.OK) != (second.Code == api.OK) {
		t.Fatalf("Build(%q) tells %v, and of %q %v", texts, trouble, other, second)
	}
	return trouble.Code == api.OK
}

// L2, L3, L4: many programs that were changed, so that they are such as nobody
// meant them; those of which an image is built do nothing that they may not.
func TestL4Changed(t *testing.T) {
	ends := map[int]int{}
	refused, shown, other := 0, 0, 0
	programs(t, 36, 130, func(m *maker, texts []string) {
		for range 12 {
			some := changed(m.Rand, texts, 1+m.Intn(4))
			if !isBuilt(t, some) || isOpen(some) {
				refused++
				continue
			}
			image := built(t, some)
			for range 4 {
				low, highs, fuel := m.input(), [2][]int64{m.input(), m.input()}, m.fuel()
				want, _ := tryOrders(t, some, image, low, highs[0], fuel)
				ends[want.End]++
				one, two := tryDry(t, some, low, highs, [2]int{fuel, api.MaxSteps})
				tryDryOrders(t, image, low, highs, [2]int{enough(fuel), api.MaxFuel})
				if len(one.Low) > 0 && len(two.Low) > 0 {
					shown++
				}
				if !slices.Equal(one.High, two.High) {
					other++
				}
			}
		}
	})
	tryEnds(t, ends)
	if refused < 100 || shown < 300 || other < 200 {
		t.Errorf("%d programs are refused, %d runs show something low, %d another high: too few", refused, shown, other)
	}
}
