package rewrite_test

import (
	"strings"
	"testing"
)

// Parts that are sure, in which no rule can be used, and for each of them parts that are almost so. x, y and z are calls.
func sureParts() map[string][]string {
	return map[string][]string{
		"%e":                                    {"%f", "'a'", "'ab'", ".", "[a]", "[^a]", "x"},
		"x*":                                    {"x"},
		"'a'*":                                  {"'a'+"},
		"x?":                                    {"x^2", "x+"},
		"x^-2":                                  {"x^2", "x^+2"},
		"x^-50":                                 {"x^50", "x^+50"},
		"%f^-2":                                 {"%f^2", "%f^+2"},
		"{}":                                    {"{x}", "{: x :}", "{:k: x :}", "{| x |}", "{~ x ~}", "x -> 't'", "x -> 1"},
		"x* y?":                                 {"x y?", "x* y", "x? y z*", "x y", "x* 'a'"},
		"x* {} y?":                              {"x* {y} y?", "x* {} y", "x {} y?"},
		"x / y*":                                {"x / y", "'a' / x", "x / y z*", "x / 'a' / y"},
		"x / y / z*":                            {"x / y / z"},
		"(x / y*) z?":                           {"(x / y) z?", "(x / y*) z"},
		"x z / y* z?":                           {"x z? / y* z"},
		"x / 'a'?":                              {"x / 'ab'"},
		"x / {}":                                {"x / &y", "x / !y"},
		"(x*)+":                                 {"(x y*)+"},
		"%e+":                                   {".+", "x+"},
		"(x?)^2":                                {"(x y?)^2", "x^2"},
		"(x?)^50":                               {"(x y?)^50"},
		"(x / %e)^3":                            {"(x / y)^3"},
		"(x?)^+2":                               {"(x y?)^+2", "x^+2"},
		"(x / y*)^+50":                          {"(x / y)^+50"},
		"&(x*)":                                 {"&x", "&(x y*)", "!(x*)", "!(x y*)", "!x"},
		"&(x / y?)":                             {"&(x / y)", "!(x / y?)"},
		"{x?}":                                  {"{x}", "{x y?}"},
		"{: x? :}":                              {"{: x y? :}"},
		"{:k: x* :}":                            {"{:k: x* y :}"},
		"{| x* |}":                              {"{| x+ |}"},
		"{~ x? ~}":                              {"{~ x ~}"},
		"x* -> 't'":                             {"x+ -> 't'"},
		"x? -> 0":                               {"x -> 0"},
		"x? -> 2":                               {"x -> 2"},
		"{|{:k: {~{(x* -> 't') -> 3}~} :} {}|}": {"{|{:k: {~{(x+ -> 't') -> 3}~} :} {}|}"},
		"({} (x / y*)^2 {z?}+)^+3 {}":           {"({} (x / y*)^2 {z}+)^+3 {}"},
	}
}

// S1: a choice of which the first part is sure has no second one, and what is sure is no option: with each part that the chapter calls sure, and with none that is almost so.
func TestSureParts(t *testing.T) {
	for s, almost := range sureParts() {
		for _, second := range []string{"v", "'v'", "%e", "('v' / v)", "v*", "{v}"} {
			goes(t, []string{"(" + s + ") / " + second, s}, []int{7})
		}
		goes(t, []string{"v {(" + s + ")?} / v", "v {" + s + "} / v"}, []int{14})
		for _, a := range almost {
			stays(t, read(t, "{"+a+"} / v"))
			stays(t, read(t, "{"+a+"}? v"))
			if a == "%f" {
				continue
			}
			stays(t, read(t, "("+a+") / v"))
			if !strings.HasSuffix(a, "+") {
				stays(t, read(t, "("+a+")? v"))
			}
		}
	}
}

// S1: PTimes and PLeast with N 0 and PNot of PFail become other parts ahead of the nodes around them, which are sure.
func TestSurePartsThatBecomeOthers(t *testing.T) {
	goes(t, []string{"x^0 / y", "%e / y", "%e"}, []int{2, 7})
	goes(t, []string{"x^-0 / y", "%e / y", "%e"}, []int{2, 7})
	goes(t, []string{"x^+0 / y", "x* / y", "x*"}, []int{3, 7})
	goes(t, []string{"!%f / y", "%e / y", "%e"}, []int{11, 7})
	goes(t, []string{"(x^0)?", "%e?", "%e"}, []int{2, 14})
	goes(t, []string{"(x^+0)?", "(x*)?", "x*"}, []int{3, 14})
	goes(t, []string{"(!%f)?", "%e?", "%e"}, []int{11, 14})
	goes(t, []string{"{!%f x?}?", "{%e x?}?", "{x?}?", "{x?}"}, []int{11, 4, 14})
}

// S1: what a rule makes is sure, or no longer, as it stands then.
func TestSureBehindRules(t *testing.T) {
	goes(t, []string{"(x %f / %e) / y", "(%f / %e) / y", "%e / y", "%e"}, []int{5, 6, 7})
	goes(t, []string{"(x y^-1)? / z", "(x y?)? / z", "(x y?)?"}, []int{3, 7})
	goes(t, []string{"(x* (y? {}))?", "(x* y? {})?", "x* y? {}"}, []int{16, 14})
	goes(t, []string{"(x* (y? z)) / v", "(x* y? z) / v"}, []int{16})
	goes(t, []string{"(x / (y / {z}))?", "(x / y / {z})?"}, []int{16})
	goes(t, []string{"(x / (y / {z?}))?", "(x / y / {z?})?", "x / y / {z?}"}, []int{16, 14})
	goes(t, []string{"&{x? {}} / y", "&(x? %e) / y", "&(x?) / y", "&(x?)"}, []int{12, 4, 7})
	goes(t, []string{"!!x? / y", "&x? / y", "&x?"}, []int{10, 7})
	goes(t, []string{"&!x? / y", "!x? / y"}, []int{10})
	goes(t, []string{"(x+)? / y", "x* / y", "x*"}, []int{15, 7})
	goes(t, []string{"(x+)+ / y", "x+ / y"}, []int{15})
	goes(t, []string{"[]? / y", "%f? / y", "%e / y", "%e"}, []int{1, 13, 7})
	goes(t, []string{"x? %f / y", "%f / y", "y"}, []int{5, 6})
}
