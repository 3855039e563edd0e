package whole

import (
	"slices"
	"strconv"
	"strings"
	"testing"

	"dryshod/api"
	"dryshod/build"
	"dryshod/compile"
)

// tryOrders holds what an image does against what its texts mean.
func tryOrders(t *testing.T, texts []string, image api.Image, low, high []int64, fuel int) (want, got api.Shown) {
	t.Helper()
	want = meant(t, texts, low, high, fuel)
	got, _ = done(t, image, low, high, enough(fuel))
	isRight := isAlike(got, want)
	if want.End == api.EndFuel {
		isRight = isBeginning(want.Low, got.Low) && isBeginning(want.High, got.High)
	}
	if !isRight {
		t.Fatalf("%q with %v, %v and the fuel %d mean %v; its orders show %v", texts, low, high, fuel, want, got)
	}
	return want, got
}

// tryFuels holds an image against its texts with each fuel up to one more than
// they take.
func tryFuels(t *testing.T, texts []string, low, high []int64) api.Shown {
	t.Helper()
	image := built(t, texts)
	want, _ := tryOrders(t, texts, image, low, high, api.MaxSteps)
	for fuel := 0; fuel <= min(want.Steps+1, api.MaxSteps); fuel++ {
		tryOrders(t, texts, image, low, high, fuel)
	}
	return want
}

// tryStats does statements in main, one row of them a program.
func tryStats(t *testing.T, end int, rows ...string) {
	t.Helper()
	for _, stats := range rows {
		if shown := tryFuels(t, inMain(stats), l(1, 2, -1<<63), l(2, 1, 1<<63-1, -1)); shown.End != end {
			t.Errorf("%s ends by %d", stats, shown.End)
		}
	}
}

// L2: numbers, names and items, in one another.
func TestL2Values(t *testing.T) {
	tryStats(t, api.EndDone,
		"", "out low 0;out low 9223372036854775807;out low -9223372036854775807-1;", "out low l;out high h;l=5;h=6;out low l;out high h;",
		"out low --5;out low !5;out low !!5;out low -!0;out low !-1;l=-l;out low -l;", "in low l;in low l;in low l;out low -l;out low !l;",
		"ls[0]=1;ls[1]=2;ls[2]=3;out low ls[0];out low ls[1];out low ls[2];out low ls[ls[0]];out low ls[ls[ls[0]]-1];",
		"one[0]=5;last=6;out low one[0];out low last;out low ls[0];out low ls[2];", "most[63]=4;hs[1]=5;out high most[63];out high most[0];out high hs[1];",
		"ls[1]=4;out low -ls[1];out low 1+ls[1];out low ls[1]-1;out low ls[--1]*!ls[0];out low -ls[!0]+-ls[1];",
		"hs[l]=3;h=1;hs[h]=4;out high hs[0]+hs[h]*10;out low l;",
	)
}

// L2: each operation, whatever stands on its sides.
func TestL2Ops(t *testing.T) {
	sides := strings.Fields("7 l -l ls[2] ls[l&1] (l+1) (l*(2+l)) say(4) seven() -say(5) ls[bump()&1] sum(3) (say(1)-say(2))")
	ends := map[int]int{}
	for _, sign := range strings.Fields("+ - * / % & | < ==") {
		for _, left := range sides {
			for _, right := range sides {
				texts := inMain("l=2;ls[2]=3;ls[1]=5;out low " + left + sign + right + ";out low l;")
				shown, _ := tryOrders(t, texts, built(t, texts), nil, nil, api.MaxSteps)
				ends[shown.End]++
			}
		}
	}
	// Two of the sides are the first word of ls, which is 0: all are divided by them.
	if len(ends) != 2 || ends[api.EndDivided] != 2*len(sides)*2 {
		t.Errorf("so many end so: %v", ends)
	}
	tryStats(t, api.EndDone, "low x=-9223372036854775807-1;out low x/-1;out low x%-1;out low -x;out low x*x;out low x-1;out low 7/-2;out low -7%2;")
	tryStats(t, api.EndDivided, "out low 1/l;", "out low say(1)/(l*say(2))+say(3);", "out low say(1)+1%l+say(2);", "l=say(1)/0;out low 1;", "ls[1/0]=say(1);", "in low ls[1%l];")
}

// L2: kids are done in order, and what one has read does not change when
// another one writes it.
func TestL2InOrder(t *testing.T) {
	tryStats(t, api.EndDone,
		"out low l+bump();out low bump()+l;out low bump()-bump();out low l-(l+bump()*(l-bump()));",
		"out low (l+1)*bump()+(l+2)*bump();out low ((l-1)-(bump()-l))-((l-2)-(bump()-l));", "l=1;ls[l]=bump()-8;out low ls[1];out low l;",
		"ls[say(1)]=say(2);ls[say(0)]=7;ls[2]=ls[say(1)]+ls[0]*say(3);out low ls[0]+10*ls[1]+100*ls[2];", "l=1;ls[l-1]=bump()*2+l;out low ls[0];",
		"do both(say(1),say(2));do both(say(3)+1,h);do change(say(5));out low l;",
		"out low five(1,2,3,4,5);out low five(say(1),say(2),say(3),say(4),say(5));out low five(l,bump(),l,bump(),l);",
		"out low five(five(1,2,3,4,5),five(5,4,3,2,1),1,five(1,1,1,1,1),2)-five(1,2,3,4,five(1,2,3,4,5));",
		"out low 1+(2-(3*(4-(5*(6-(7+say(8)))))));out low say(1)+(say(2)-(say(3)*(say(4)-say(5))));",
		"out low 1-(2-(3-(4-(5-l))));out low ((((1-2)-3)-4)-5)-l;low x=1;out low x-(l-(x-(l-x)));",
	)
}

// L2: what is not there.
func TestL2Index(t *testing.T) {
	for _, index := range []string{"0", "1", "2"} {
		tryStats(t, api.EndDone, "out low ls["+index+"];", "ls["+index+"]=3;out low ls["+index+"];", "in low ls["+index+"];out low ls[0]+10*ls[1]+100*ls[2];")
	}
	tryStats(t, api.EndDone, "out high most[63];", "in high most[63];out high most[63];", "out low one[0];", "hs[1]=1;out high hs[1];")
	for _, index := range []string{"3", "-1", "4", "9223372036854775807", "(-9223372036854775807-1)", "(3*1431655765)", "(1-ls[0]+say(2))", "say(-1)"} {
		tryStats(t, api.EndIndex, "out low ls["+index+"];", "ls["+index+"]=say(3);out low 1;", "in low ls["+index+"];out low 1;", "out low ls[ls["+index+"]];", "out low say(1)+ls["+index+"]*say(2);")
	}
	tryStats(t, api.EndIndex, "out high most[64];", "out low one[1];", "in high hs[2];", "in high hs[-1];", "out low one[say(1)]+say(2);", "most[64]=1;", "one[-1]=1;")
}

// L2: calls, as many as there may be and one more.
func TestL2Calls(t *testing.T) {
	tryStats(t, api.EndDone,
		"out low sum(0);out low sum(5);out low sum(28);out low 1+sum(28);", "do say(1);do seven();do bump();out low l;do change(7);out low l;",
		"low x=1;low y=sum(3);out low x;low z=sum(x)+y;out low x+10*y+100*z;do change(x);out low x;out low l;",
		"out high even(7);out high odd(7);out high even(28);out high 5+even(6)*odd(3);", "h=9;do hide(3,h);out high h;out high most[0];out low l;",
		"if(seven()){out low 1;}while(seven()-7){out low 2;}l=3;while(say(l)){l=l-1;}",
	)
	tryStats(t, api.EndDeep,
		"do sink(1);", "out low 7;out low sum(29);", "out low say(1)+sum(40);", "low a=1;low b=2;low c=sum(29);", "out high even(29);",
		"low a=1;low b=2;low c=3;low d=4;low e=5;out low a+(b-(c*(d-(e+sum(5+sum(29))))));",
	)
	// The kids are done ahead of the call that is one too many.
	chain := "module main;proc f(low n)low{out low n;do g(n,say(n),h(n),say(n+1),n);}proc g(low a,low b,low c,low d,low e)low{do f(a+c);}" +
		"proc h(low n)low gives low{return 1;}proc say(low n)low gives low{out low -n;return n;}pub proc main()low{do f(1);}"
	if shown := tryFuels(t, []string{chain}, nil, nil); shown.End != api.EndDeep {
		t.Errorf("%s ends by %d", chain, shown.End)
	}
}

// L2: locals are there as long as their blocks, each call has its own.
func TestL2Locals(t *testing.T) {
	tryStats(t, api.EndDone,
		"low l=1;out low l;do bump();out low l;l=2;out low l;if(1){low l=3;out low l;l=l+1;out low l;high h=l;out high h;}out low l;",
		"if(1){low a=1;low b=2;out low a+b;}low c=l;out low c;if(1){low d=l;low e=c;out low d+e;}low f=9;out low c+f;",
		"low n=3;while(n){low x=n*n;n=n-1;if(n){low x=5;out low x;}else{low y=x;out low y;}out low x;}low z=n;out low z;",
		"low ls=4;out low ls;ls=ls+1;out low ls;", "low x=say(1)+say(2);low y=x+say(x);out low x*y;low z=five(x,y,x,y,x);out low z-x;",
		"low a=1;out low a+(say(2)*(a+say(3)));low b=a;out low b-(say(4)-(b-say(5)));", "in high h;high x=h;if(x){high y=x;x=y+1;}out high x;in low l;low z=l;in low z;out low z;",
		"high x=1;in high x;out high x;in high hs[1];out high hs[1];low say=1;out low say(say);",
	)
	most := ""
	for i := range api.MaxLocals {
		most += "low v" + string(rune('a'+i)) + "=l+" + strconv.Itoa(i) + ";"
	}
	tryStats(t, api.EndDone, "l=1;"+most+"out low va+(vt*(vs-sum(vt)));out low five(va,vb,vc,vd,vt);")
	// Much is kept while as many calls as there may be are made in one another, and one more.
	for deep, end := range map[string]int{"28": api.EndDone, "29": api.EndDeep} {
		text := "module main;proc f(low n,low a,low b,low c)low gives low{low d=n;low e=d;low r=c;if(n){r=a+(b-(c*(d-(e-f(n-1,n,a,d)))));}return r-(a+e);}" +
			"pub proc main()low{out low 5+(6-f(" + deep + ",1,2,3));}"
		if shown := tryFuels(t, []string{text}, nil, nil); shown.End != end {
			t.Errorf("%s ends by %d", text, shown.End)
		}
	}
}

// L2: what is done or not, once or again.
func TestL2Branches(t *testing.T) {
	for _, asked := range []string{"0", "1", "-1", "l", "!l", "h", "l<1", "1<l", "say(0)", "say(2)", "-9223372036854775807-1"} {
		tryStats(t, api.EndDone,
			"if("+asked+"){out high 1;}out high 9;", "if("+asked+"){out high 1;}else{out high 2;}out high 9;", "if("+asked+"){}else{out high 2;}", "if("+asked+"){}",
			"if("+asked+"){if(1){out high 3;}else{out high 4;}}else{if(0){out high 5;}else{out high 6;}}",
		)
	}
	tryStats(t, api.EndDone, "while(0){out low 1;}out low 2;", "low n=4;while(n){out low n;n=n-1;}out low n;", "low n=3;while(n){low k=n;while(k){out low k;k=k-1;}n=n-1;}")
	tryStats(t, api.EndFuel, "while(1){}", "while(1){out low 1;}", "while(seven()){if(0){}else{l=l+1;}}")
}

// L2: numbers that come in, and that there are none left.
func TestL2Inputs(t *testing.T) {
	tryStats(t, api.EndDone, "in low l;out low l;in low ls[1];out low ls[1];in high h;out high h;in high hs[h-1];out high hs[1];in low h;out high h;", "in low ls[bump()-l];out low ls[0];", "low x=0;in low x;in low x;out low x;")
	tryStats(t, api.EndInput, "while(1){in low l;out low l;}", "while(1){in high h;out high h;}", "in low l;in low l;in low l;in low ls[say(5)];", "while(1){in high hs[say(1)];}")
}

// orders of three modules, in which the first one stands anywhere.
func anyPlaces(a, b, c string) [][]string {
	return [][]string{{a, b, c}, {a, c, b}, {b, a, c}, {b, c, a}, {c, a, b}, {c, b, a}}
}

// L2, L3: modules, in whatever order they stand.
func TestL3Modules(t *testing.T) {
	a := "module a;high own;pub low x;low own2;pub low xs[2];pub high h;pub proc add(low x)low gives low{own2=own2+x;return own2;}pub proc get()high gives low{return x;}proc hidden()low{}"
	b := "module b;import a;low own;low x;pub high hs[3];pub proc add(low n)low{own=own+n;x=a.add(n);a.x=a.x+x;}pub proc deep(low n)low gives low{low r=n;if(n){r=deep(n-1)+a.add(1);}return r;}"
	for _, stats := range []string{
		"do b.add(2);do b.add(3);out low a.add(0);out low a.x;out low x;out low own;out low get();out low a.get();",
		"x=1;a.x=2;a.xs[1]=3;low x=4;out low x;out low a.x;out low a.get();out low a.xs[1];out low a.xs[0];a.xs[2]=1;",
		"in low a.x;in low a.xs[a.x];out low a.xs[1];a.h=a.x;out high a.h;in high b.hs[2];out high b.hs[a.h+1];b.hs[x]=4;out high b.hs[0];",
		"low a=3;out low a;out low a.x+a;do b.add(a);out low a.x+a;", "out low b.deep(27);out low a.get();", "out low b.deep(28);", "out low b.deep(40);",
	} {
		main := "module main;import b;import a;low x;low own;pub proc main()low{" + stats + "}proc get()low gives low{return own;}"
		for _, texts := range anyPlaces(main, a, b) {
			tryFuels(t, texts, l(1, 6, 7), l(8))
		}
	}
}

// allPlaces hands all orders of texts to try; those behind the first ones.
func allPlaces(first, texts []string, try func(texts []string)) {
	if len(texts) == 0 {
		try(first)
	}
	for i, text := range texts {
		allPlaces(append(slices.Clone(first), text), slices.Delete(slices.Clone(texts), i, i+1), try)
	}
}

// L3: as many modules as there may be, whose names for what they have are
// alike, in all orders.
func TestL3Six(t *testing.T) {
	main := "module main;import e;import c;low x;pub high y;pub proc main()low{in low x;in high y;do e.f(x,y);do c.f(x+1,3);out low x;out high y;out low c.z[1];}"
	texts := []string{main}
	for _, one := range []string{"a", "b a", "c a b", "d c b", "e d a c"} {
		names := strings.Fields(one)
		text, calls := "module "+names[0]+";", ""
		for _, other := range names[1:] {
			text += "import " + other + ";"
			calls += "do " + other + ".f(x-n,y);x=x+" + other + ".z[1];"
		}
		text += "high y;low x;pub low z[2];pub proc f(low n,high m)low{z[1]=z[1]+n;x=x+z[1];y=y*3+m;" + calls + "out low x;do g();}proc g()high{if(y){out high y;}}"
		texts = append(texts, text)
	}
	want := meant(t, texts, l(2), l(5), api.MaxSteps)
	if want.End != api.EndDone || len(want.Low) < 10 || len(want.High) < 10 {
		t.Fatalf("%q mean %v", texts, want)
	}
	count := 0
	allPlaces(nil, texts, func(texts []string) {
		count++
		if got, _ := done(t, built(t, texts), l(2), l(5), enough(want.Steps)); !isAlike(got, want) {
			t.Fatalf("%q show %v; want %v", texts, got, want)
		}
	})
	if count != 720 {
		t.Errorf("%d orders were tried", count)
	}
}

// L3: where there is trouble, there is some in any order.
func TestL3Trouble(t *testing.T) {
	main := "module main;import a;pub proc main()low{out low a.x;}"
	for _, texts := range [][]string{
		{main, "module a;pub low x;"}, {main, "module a;low x;"}, {main, "module a;pub high x;"}, {main, "module a;pub low x[1];"}, {main, "module b;pub low x;"}, {main},
		{main, "module a;import b;pub low x;", "module b;"}, {main, "module a;import b;pub low x;", "module b;import a;"}, {main, "module a;import main;pub low x;"},
		{main, "module a;pub low x;", "module a;pub low x;"}, {main, "module a;pub low x;", "module b;?"}, {main, "module a;pub low x;", "module b;high h;proc p()low{out low h;}"},
		{"module main;pub proc main()low{}", "module a;pub low x;", "module b;import a;"}, {"module a;pub low x;", "module b;import a;"}, {"module main;proc main()low{}", "module a;import main;", "module b;"},
	} {
		_, trouble := build.Build(texts)
		allPlaces(nil, texts, func(texts []string) {
			if image, other := build.Build(texts); (trouble.Code == api.OK) != (other.Code == api.OK) || other.Code != api.OK && len(image.Code) > 0 {
				t.Errorf("Build(%q) = %v, %v, and in another order there is %v", texts, image, other, trouble)
			}
		})
	}
}

// L2, L3: many programs, in two orders of their texts.
func TestL3Programs(t *testing.T) {
	ends := map[int]int{}
	programs(t, 12, 500, func(m *maker, texts []string) {
		image := built(t, texts)
		shuffled := append([]string{}, texts...)
		m.Shuffle(len(texts), func(i, j int) { shuffled[i], shuffled[j] = shuffled[j], shuffled[i] })
		other := built(t, shuffled)
		for range 5 {
			low, high, fuel := m.input(), m.input(), m.fuel()
			want, _ := tryOrders(t, texts, image, low, high, fuel)
			tryOrders(t, shuffled, other, low, high, fuel)
			ends[want.End]++
		}
	})
	tryEnds(t, ends)
}

// Orders rely on no register that a call may change: here one of another make
// changes all but those that say where frames begin.
func TestOtherOrders(t *testing.T) {
	other := api.Object{Face: api.Face{Module: "a", Procs: []api.Proc{{Name: "p", Pub: true, Params: []int{api.Low}}}}, Procs: []api.Place{{Name: "p"}}}
	for register := range 6 {
		other.Code = append(other.Code, api.Instr{Op: api.ISet, A: register, N: 77})
	}
	other.Code = append(other.Code, api.Instr{Op: api.IBack})
	text := "module main;import a;low x;low xs[2];pub proc main()low{low y=5;x=3;do a.p(1);out low x;do a.p(1);out low -x;do a.p(1);out low -y;do a.p(1);xs[1]=4;do a.p(1);out low !xs[1];do a.p(1);x=y;out low x*y;}"
	main, fault := compile.Make(text, []api.Face{other.Face})
	if fault != (api.Fault{}) {
		t.Fatal(fault)
	}
	shown, _ := done(t, linked(t, []api.Object{other, main}), nil, nil, api.MaxFuel)
	if want := (api.Shown{End: api.EndDone, Low: l(3, -3, -5, 0, 25)}); !isAlike(shown, want) {
		t.Errorf("%v is shown; want %v", shown, want)
	}
}
