package tests

import (
	"math"
	"math/rand"
	"reflect"
	"slices"
	"strconv"
	"strings"
	"testing"

	"loop.example/g00187/impl"
)

// flowCase is a text, and its flow as toldFlow reads it.
type flowCase struct{ text, want string }

func flowedAll(t *testing.T, cases []flowCase) {
	t.Helper()
	for _, c := range cases {
		flowed(t, c.text, c.want)
	}
}

func TestFlowOfEachKind(t *testing.T) {
	flowedAll(t, []flowCase{
		{"n 1", ""}, {"t", ""}, {"nil f i i", ""},
		{"fn x i v x 0", "0=0"}, {"fn x i fn y i n 1", "0=0 1=1"}, {"pair n 1 t", "0=0"}, {"cons n 1 nil i", "0=0"},
		// what stands within a thing is not in its list
		{"pair fn x i n 1 fn y i n 2", "0=0 1=1 3=3"}, {"cons fn x i n 1 cons fn y i n 2 nil f i i", "0=0 1=1 3=3 4=4"}, {"pair pair n 1 n 2 cons n 3 nil i", "0=0 1=1 4=4"},
		{"app fn x i v x 0 n 1", "1=1"}, {"app fn x f i i v x 0 fn y i n 1", "0=3 1=1 2=3 3=3 x=3"}, {"app fn x i fn y i n 1 n 2", "0=2 1=1 2=2"}, {"app fn x f i i n 1 fn y i n 2", "1=1 3=3 x=3"},
		{"app fn x i v x 0 pair n 1 n 2", "0=3 1=1 2=3 3=3 x=3"}, {"app fn x i v x 0 cons n 1 nil i", "0=3 1=1 2=3 3=3 x=3"},
		{"let x 0 fn y i v y 0 v x 0", "0=1 1=1 3=1 x=1"}, {"let x 0 fn y i n 1 n 2", "1=1 x=1"}, {"let x 0 n 1 fn y i n 2", "0=2 2=2"}, {"let x 0 pair n 1 n 2 v x 0", "0=1 1=1 4=1 x=1"},
		{"fix f 0 f i i fn x i v x 0 v f 0", "0=1 1=1 3=1 f=1"}, {"fix f 0 f i i fn x i n 1 n 2", "1=1 f=1"}, {"fix f 0 f i i fn x i v f 0 n 2", "1=1 2=1 f=1"}, {"fix f 0 f i i fn x i n 1 pair n 2 n 3", "0=3 1=1 3=3 f=1"},
		{"if t fn x i n 1 fn y i n 2", "0=2,4 2=2 4=4"}, {"if fn x i n 1 n 2 n 3", "1=1"}, {"if t pair n 1 n 2 cons n 1 nil i", "0=2,5 2=2 5=5"}, {"if u n 1 fn y i n 2", "0=3 3=3"},
		{"fst pair fn x i n 1 fn y i n 2", "0=2 1=1 2=2 4=4"}, {"snd pair fn x i n 1 fn y i n 2", "0=4 1=1 2=2 4=4"}, {"fst pair n 1 fn y i n 2", "1=1 3=3"}, {"snd pair fn x i n 1 n 2", "1=1 2=2"},
		{"case h r nil i n 1 n 2", ""}, {"case h r nil i fn x i n 1 fn y i n 2", "0=2,4 2=2 4=4"}, {"case h r cons n 1 nil i n 1 n 2", "1=1"},
		{"case h r cons fn x i n 1 nil f i i fn y i n 2 v h 0", "0=2,5 1=1 2=2 5=5 7=2 h=2"},
		{"case h r cons fn x i n 1 cons fn y i n 2 nil f i i nil f i i v r 0", "0=4 1=1 2=2 4=4 5=5 9=4 h=2 r=4"},
		{"case r h cons fn x i n 1 cons fn y i n 2 nil f i i nil f i i v r 0", "0=2 1=1 2=2 4=4 5=5 9=2 r=2 h=4"},
		{"op + fn x i n 1 pair n 1 n 2", "1=1 3=3"}, {"op = n 1 n 2", ""}, {"raise f i i fn x i n 1", "1=1"}, {"raise f i i pair n 1 n 2", "1=1"},
		// the number of a raise is no thing
		{"try e fn x i n 1 fn y i n 2", "0=1,3 1=1 3=3"}, {"try e raise i fn x i n 1 v e 0", "2=2"}, {"try e n 1 v e 0", ""}, {"try e n 1 fn x i v e 0", "0=2 2=2"},
	})
}

// Each part of each kind alone: which of them reach its own list.
func TestFlowOfEachPart(t *testing.T) {
	own := []string{"let second", "fix second", "if second", "if third", "case second", "case third", "try first", "try second"}
	for how, wrap := range wraps() {
		for _, thing := range []impl.Term{tmFn("deep", tyInt, tmNum(1)), tmOf(impl.TmPair, tmNum(1), tmNum(2)), tmOf(impl.TmCons, tmNum(1), tmNil(tyInt))} {
			whole := wrap(thing)
			at := slices.IndexFunc(plainNodesIn(&whole), func(n plainNode) bool { return n.t.K == thing.K && n.t.S == thing.S && n.above == 0 })
			want := slices.Contains(own, how)
			if f := asPlainFlow(t, whole); at < 1 || slices.Contains(f.Of[0], at) != want || !slices.Equal(f.Of[at], []int{at}) {
				t.Errorf("%s: %s", how, flowText(whole, f))
			}
		}
	}
}

func TestCallsOfOneFunction(t *testing.T) {
	calledAll(t, []callCase{
		// at one place, at several, nowhere
		{"let f 0 fn x i v x 0 app v f 0 n 1", "3=1", "3>1"},
		{"let f 0 fn x i v x 0 op + app v f 0 n 1 app v f 0 n 2", "4=1 7=1", "4>1 7>1"},
		{"let f 0 fn x i v x 0 app v f 0 app v f 0 app v f 0 n 2", "3=1 5=1 7=1", "7>1 5>1 3>1"},
		{"let f 0 fn x i v x 0 n 1", "", ""}, {"fn x i v x 0", "", ""}, {"let f 0 fn x i v x 0 v f 0", "", ""}, {"let f 0 fn x i v x 0 let g 0 fn y i n 2 app v f 0 n 3", "6=1", "6>1"},
		{"app fn x i n 1 fn y i n 2", "0=1", "0>1"}, {"app app fn x i fn y i op + v x 0 v y 0 n 1 n 2", "0=3 1=2", "1>2 0>3"},
		// never met, but it may be
		{"fn x i app fn y i n 1 n 2", "1=2", ""}, {"if t n 1 app fn y i n 1 n 2", "3=4", ""}, {"case h r nil i n 1 app fn y i n 1 n 2", "3=4", ""}, {"try e n 1 app fn y i n 1 n 2", "2=3", ""}, {"raise i op + raise i n 1 app fn y i n 1 n 2", "4=5", ""},
	})
}

func TestCallsThatSeveralReach(t *testing.T) {
	calledAll(t, []callCase{
		{"app if t fn x i n 1 fn y i n 2 n 3", "0=3,5", "0>3"}, {"app if u fn x i n 1 fn y i n 2 n 3", "0=3,5", "0>5"},
		{"app case h r nil i fn x i n 1 fn y i n 2 n 3", "0=3,5", "0>3"}, {"app case h r cons n 1 nil i fn x i n 1 fn y i n 2 n 3", "0=5,7", "0>7"},
		{"app try e fn x i n 1 fn y i n 2 n 3", "0=2,4", "0>2"}, {"app try e raise f i i n 1 fn y i n 2 n 3", "0=4", "0>4"}, {"app try e if t raise f i i n 1 fn x i n 1 fn y i n 2 n 3", "0=6,8", "0>8"},
		{"let f 0 if t fn x i n 1 fn y i n 2 app v f 0 n 3", "7=3,5", "7>3"}, {"let f 0 if t fn x i n 1 if t fn y i n 2 fn z i n 2 app v f 0 n 3", "11=3,7,9", "11>3"},
		// by an argument
		{"let f 0 fn g f i i app v g 0 n 1 op + app v f 0 fn x i v x 0 app v f 0 fn y i n 2", "2=8,12 6=1 10=1", "6>1 2>8 10>1 2>12"},
		{"let f 0 fn g f i i app v g 0 n 1 op + app v f 0 fn x i v x 0 app v f 0 v f 0", "2=1,8 6=1 10=1", "6>1 2>8 10>1 2>1"},
		// by a result
		{"app app fn x b if v x 0 fn y i n 1 fn z i n 2 u n 3", "0=5,7 1=2", "1>2 0>7"},
		{"let f 0 if u fn x i fn y i n 1 fn z i fn w i n 2 app app v f 0 n 3 n 4", "9=4,7 10=3,6", "10>6 9>7"},
		// given and given back
		{"let id 0 fn f f i i v f 0 app app v id 0 fn x i v x 0 n 1", "3=6 4=1", "4>1 3>6"},
		{"let id 0 fn f f i i v f 0 op + app app v id 0 fn x i v x 0 n 1 app app v id 0 fn y i n 2 n 3", "4=7,13 5=1 10=7,13 11=1", "5>1 4>7 11>1 10>13"},
		{"let id 0 fn f f i i v f 0 app app app v id 0 v id 0 fn x i v x 0 n 1", "3=1,8 4=1,8 5=1", "5>1 4>1 3>8"},
		{"let twice 0 fn f f i i fn x i app v f 0 app v f 0 v x 0 app app v twice 0 fn y i op + v y 0 n 1 n 5", "3=11 5=11 8=2 9=1", "9>1 8>2 5>11 3>11"},
	})
}

func TestCallsOfAFunctionItself(t *testing.T) {
	calledAll(t, []callCase{
		{"fix f 0 f i i fn x i if op < v x 0 n 1 n 0 app v f 0 op - v x 0 n 1 app v f 0 n 3", "7=1 12=1", "12>1 7>1"},
		{"fix f 0 f i i fn x i if op < v x 0 n 1 n 0 app v f 0 op - v x 0 n 1 app v f 0 n 0", "7=1 12=1", "12>1"},
		{"fix f 0 f i i fn x i app v f 0 v x 0 n 3", "2=1", ""}, {"fix f 0 f i i fn x i app v f 0 v x 0 app v f 0 n 3", "2=1 5=1", "5>1 2>1"},
		// one that gives itself back
		{"fix f 0 f i i fn x i v f 0 app app v f 0 n 1 n 2", "3=1 4=1", "4>1 3>1"}, {"fix f 0 f i i fn x i v f 0 app app app v f 0 n 1 n 2 n 3", "3=1 4=1 5=1", "5>1 4>1 3>1"},
		{"fix f 0 f i i fn x i fn y i app v f 0 v x 0 app app v f 0 n 1 n 2", "3=1 6=2 7=1", "7>1 6>2 3>1"},
		{"fix f 0 f i i fn x i fn y i app v f 0 v x 0 app app app v f 0 n 1 n 2 n 3", "3=1 6=2 7=2 8=1", "8>1 7>2 3>1 6>2"},
		// one that is called with itself
		{"let w 0 fn x i app v x 0 v x 0 app v w 0 v w 0", "2=1 5=1", "5>1 2>1"}, {"app fn x i app v x 0 v x 0 fn y i app v y 0 v y 0", "0=1 2=5 6=5", "0>1 2>5 6>5"},
		{"let w 0 fn x i fn y i app v x 0 v x 0 app app v w 0 v w 0 n 1", "3=1 6=2 7=1", "7>1 6>2 3>1"}, {"let id 0 fn x i v x 0 app app v id 0 v id 0 n 3", "3=1 4=1", "4>1 3>1"},
		{"fix f 0 f i i fn g f i i app v g 0 v g 0 app v f 0 v f 0", "2=1 5=1", "5>1 2>1"},
		// two that call each other
		{"fix f 0 f i i fn x i fix g 0 f i i fn y i if op < v y 0 n 1 n 0 app v f 0 op - v y 0 n 1 app v g 0 v x 0 app v f 0 n 2", "9=1 14=3 17=1", "17>1 14>3 9>1"},
	})
}

// Functions within pairs and lists, taken apart again.
func TestCallsOutOfPairs(t *testing.T) {
	calledAll(t, []callCase{
		{"app fst pair fn x i n 1 fn y i n 2 n 3", "0=3", "0>3"}, {"app snd pair fn x i n 1 fn y i n 2 n 3", "0=5", "0>5"},
		{"app fst snd pair fn x i n 1 pair fn y i n 2 fn z i n 3 n 4", "0=7", "0>7"}, {"app snd snd pair fn x i n 1 pair fn y i n 2 fn z i n 3 n 4", "0=9", "0>9"}, {"app fst fst pair pair fn x i n 1 fn y i n 2 fn z i n 3 n 4", "0=5", "0>5"}, {"app snd fst pair pair fn x i n 1 fn y i n 2 fn z i n 3 n 4", "0=7", "0>7"},
		{"app fst if t pair fn x i n 1 n 2 pair fn y i n 3 n 4 n 5", "0=5,9", "0>5"}, {"let p 0 pair fn x i n 1 fn y i n 2 op + app fst v p 0 n 3 app snd v p 0 n 4", "7=2 11=4", "7>2 11>4"},
		// what is put into another pair is not mixed up with it
		{"let p 0 pair fn x i n 1 fn y i n 2 let q 0 pair snd v p 0 fst v p 0 op + app fst v q 0 n 3 app snd v q 0 n 4", "13=4 17=2", "13>4 17>2"},
		// through calls: made by one function, it is all one
		{"let mk 0 fn f f i i pair v f 0 v f 0 op + app fst app v mk 0 fn x i n 1 n 2 app snd app v mk 0 fn y i n 3 n 4", "6=10,17 8=1 13=10,17 15=1", "8>1 6>10 15>1 13>17"},
		{"app app fn p i fst v p 0 pair fn x i n 1 fn y i n 2 n 3", "0=6 1=2", "1>2 0>6"}, {"let get 0 fn p i snd v p 0 app app v get 0 app v get 0 pair n 1 pair n 2 fn x i n 3 n 4", "4=13 5=1 7=1", "7>1 5>1 4>13"},
	})
}

func TestCallsOutOfLists(t *testing.T) {
	calledAll(t, []callCase{
		// the first one, the second one, none
		{"case h r cons fn x i n 1 cons fn y i n 2 nil f i i n 0 app v h 0 n 3", "9=2", "9>2"},
		{"case h r cons fn x i n 1 cons fn y i n 2 nil f i i n 0 case k s v r 0 n 0 app v k 0 n 3", "12=5", "12>5"},
		{"case h r cons fn x i n 1 nil f i i n 0 case k s v r 0 n 0 app v k 0 n 3", "", ""},
		{"case h r if t cons fn x i n 1 nil f i i cons fn y i n 2 nil f i i n 0 app v h 0 n 3", "12=4,8", "12>4"},
		// all of a list, by a fix
		{"fix f 0 f l f i i i fn l l f i i case h r v l 0 n 0 op + app v h 0 n 1 app v f 0 v r 0 app v f 0 cons fn x i n 1 cons fn y i n 2 nil f i i", "6=15,18 9=1 12=1", "12>1 6>15 9>1 6>18"},
		{"fix f 0 f i l f i i fn n i if op < v n 0 n 1 nil f i i cons fn x i v n 0 app v f 0 op - v n 0 n 1 case h r app v f 0 n 2 n 0 case k s v r 0 n 0 app v k 0 n 7", "10=1 16=1 23=8", "16>1 10>1 23>8"},
		// lists of lists, of pairs, pairs of lists
		{"case h r cons cons fn x i n 1 nil f i i nil l f i i n 0 case k s v h 0 n 0 app v k 0 n 3", "11=3", "11>3"},
		{"case h r cons cons fn x i n 1 nil f i i cons cons fn y i n 2 nil f i i nil l f i i n 0 case k s v r 0 n 0 case q u v k 0 n 0 app v q 0 n 3", "19=8", "19>8"},
		{"case h r cons cons n 1 cons fn x i n 1 nil f i i nil i n 0 case k s v h 0 n 0 case q u v s 0 n 0 app v q 0 n 3", "16=5", "16>5"},
		{"case h r cons pair fn x i n 1 fn y i n 2 nil p f i i f i i n 0 app snd v h 0 n 3", "9=5", "9>5"}, {"case h r cons pair fn x i n 1 fn y i n 2 nil p f i i f i i n 0 app fst v h 0 n 3", "9=3", "9>3"},
		{"case h r snd pair n 1 cons fn x i n 1 nil f i i n 0 app v h 0 n 3", "9=5", "9>5"}, {"case h r cons n 1 cons pair n 1 cons fn x i n 1 nil i nil i n 0 case k s v r 0 n 0 case q u snd v k 0 n 0 app v q 0 n 3", "19=7", "19>7"},
		// a second A that is a TmVar, a Z put behind a TmCons again
		{"let l 0 cons fn x i n 1 nil f i i case h r cons fn y i n 2 v l 0 n 0 case k s v r 0 n 0 app v k 0 n 3", "14=2", "14>2"},
		{"case h r cons fn x i n 1 cons fn y i n 2 nil f i i n 0 case k s cons fn z i n 3 v r 0 n 0 case q u v s 0 n 0 app v q 0 n 4", "18=5", "18>5"},
		{"case h r cons fn x i n 1 cons fn y i n 2 nil f i i n 0 case k s cons v h 0 v r 0 n 0 case q u v s 0 n 0 op + app v k 0 n 3 app v q 0 n 4", "18=2 21=5", "18>2 21>5"},
		{"case h r cons fn x i n 1 cons fn y i n 2 nil f i i n 0 case k s cons v r 0 v r 0 n 0 case q u v k 0 n 0 app v q 0 n 4", "17=5", "17>5"},
		// through calls
		{"let mk 0 fn a f i i cons v a 0 nil f i i case h r app v mk 0 fn x i n 1 n 0 app v h 0 n 2", "6=1 11=8", "6>1 11>8"},
		{"let hd 0 fn l l f i i case h r v l 0 raise f i i n 1 v h 0 app app v hd 0 cons fn x i n 1 nil f i i n 2", "7=11 8=1", "8>1 7>11"},
		{"let tl 0 fn l l f i i case h r v l 0 nil f i i v r 0 case k s app v tl 0 cons fn x i n 1 cons fn y i n 2 nil f i i n 0 app v k 0 n 2", "7=1 17=13", "7>1 17>13"},
	})
}

// The list of a TmCons itself has nothing but that: lists within lists are told apart by their nodes.
func TestFlowOfListsWithinLists(t *testing.T) {
	flowedAll(t, []flowCase{
		{"case h r cons cons fn x i n 1 nil f i i nil l f i i nil f i i v h 0", "0=2 1=1 2=2 3=3 8=2 h=2"},
		{"case h r cons cons fn x i n 1 nil f i i nil l f i i n 0 case k s v h 0 n 0 v k 0", "0=3 1=1 2=2 3=3 8=3 9=2 11=3 h=2 k=3"},
		{"case h r cons pair n 1 pair n 2 n 3 nil i n 0 snd v h 0", "0=4 1=1 2=2 4=4 9=4 10=2 h=2"},
		{"let l 0 cons n 1 nil i case h r cons v l 0 v l 0 nil i if t v h 0 v r 0", "0=1 1=1 4=1 5=5 6=1 7=1 9=1 11=1 12=1 l=1 h=1 r=1"},
		// a list that is its own rest, as far as the flow can tell
		{"fix f 0 f i i fn n i cons fn x i n 1 app v f 0 v n 0 case h r app v f 0 n 2 n 0 v r 0", "0=2 1=1 2=2 3=3 5=2 6=1 8=2 9=2 10=1 13=2 f=1 h=3 r=2"},
		{"fix f 0 f i i fn n i cons v n 0 app v f 0 pair v n 0 v n 0 case h r app v f 0 fn x i n 2 n 0 v h 0", "0=6,12 1=1 2=2 3=6,12 4=2 5=1 6=6 7=6,12 8=6,12 9=6,12 10=2 11=1 12=12 15=6,12 f=1 n=6,12 h=6,12 r=2"},
	})
}

// Each inclusion alone: the least flow, and one that breaks just that.
func TestFlowOkOfEachInclusion(t *testing.T) {
	seen := map[string]bool{}
	for _, c := range []struct{ rule, text, least, broken string }{
		{"own", "fn x i n 1", "0=0", ""}, {"own", "pair n 1 n 2", "0=0", ""}, {"own", "cons n 1 nil i", "0=0", ""}, {"own", "fn x i pair n 1 n 2", "0=0 1=1", "0=0,1"},
		{"var", "let x 0 fn y i n 1 v x 0", "0=1 1=1 3=1 x=1", "1=1 x=1"}, {"var", "fix f 0 i fn x i v f 0 n 1", "1=1 2=1 f=1", "1=1 f=1"},
		{"var", "case h r cons pair n 1 n 2 nil i n 3 v h 0", "0=2 1=1 2=2 7=2 h=2", "1=1 2=2 h=2"}, {"var", "case h r cons n 1 cons n 2 nil i n 3 v r 0", "0=3 1=1 3=3 7=3 r=3", "1=1 3=3 r=3"},
		{"var", "app fn x i v x 0 fn y i n 1", "0=3 1=1 2=3 3=3 x=3", "1=1 3=3 x=3"}, {"var", "fn x i v x 0", "0=0", "0=0 x=0"}, {"var", "try e pair n 1 n 2 v e 0", "0=1 1=1", "0=1 1=1 e=1"},
		{"app argument", "app fn x f i i n 1 fn y i n 2", "1=1 3=3 x=3", "1=1 3=3"}, {"app argument", "app fn x i n 1 pair n 2 n 3", "1=1 3=3 x=3", "1=1 3=3"},
		{"app argument", "app if t fn x i n 1 fn y i n 2 pair n 3 n 4", "1=3,5 3=3 5=5 7=7 x=7 y=7", "1=3,5 3=3 5=5 7=7 x=7"}, {"app argument", "app if t fn x i n 1 fn y i n 2 pair n 3 n 4", "1=3,5 3=3 5=5 7=7 x=7 y=7", "1=3,5 3=3 5=5 7=7 y=7"},
		{"app result", "app fn x i fn y i n 1 n 2", "0=2 1=1 2=2", "1=1 2=2"}, {"app result", "app if t fn x i pair n 1 n 2 fn y i pair n 1 n 2 n 3", "0=4,8 1=3,7 3=3 4=4 7=7 8=8", "0=4 1=3,7 3=3 4=4 7=7 8=8"},
		{"let is", "let x 0 fn y i n 1 n 2", "1=1 x=1", "1=1"}, {"let in", "let x 0 n 1 fn y i n 2", "0=2 2=2", "2=2"},
		{"fix is", "fix f 0 f i i fn x i n 1 n 2", "1=1 f=1", "1=1"}, {"fix in", "fix f 0 f i i fn x i n 1 fn y i n 2", "0=3 1=1 3=3 f=1", "1=1 3=3 f=1"},
		{"if second", "if t fn x i n 1 n 2", "0=2 2=2", "2=2"}, {"if third", "if t n 1 fn x i n 2", "0=3 3=3", "3=3"},
		{"case second", "case h r nil i fn x i n 1 n 2", "0=2 2=2", "2=2"}, {"case third", "case h r nil i n 1 fn x i n 2", "0=3 3=3", "3=3"},
		{"case S", "case h r cons fn x i n 1 nil i n 2 n 3", "1=1 2=2 h=2", "1=1 2=2"}, {"case Z", "case h r cons n 1 cons n 2 nil i n 3 n 4", "1=1 3=3 r=3", "1=1 3=3"},
		{"case S", "case h r if t cons pair n 1 n 2 nil i cons pair n 3 n 4 nil i n 5 n 6", "1=3,8 3=3 4=4 8=8 9=9 h=4,9", "1=3,8 3=3 4=4 8=8 9=9 h=4"},
		{"case Z", "case h r cons n 1 if t cons n 2 nil i cons n 3 nil i n 4 n 5", "1=1 3=5,8 5=5 8=8 r=5,8", "1=1 3=5,8 5=5 8=8 r=8"},
		{"fst", "fst pair fn x i n 1 n 2", "0=2 1=1 2=2", "1=1 2=2"}, {"snd", "snd pair n 1 fn x i n 2", "0=3 1=1 3=3", "1=1 3=3"},
		{"fst", "fst if t pair cons n 1 nil i n 2 pair cons n 3 nil i n 4", "0=4,9 1=3,8 3=3 4=4 8=8 9=9", "0=9 1=3,8 3=3 4=4 8=8 9=9"}, {"snd", "snd if t pair n 1 pair n 1 n 2 pair n 1 pair n 3 n 4", "0=5,10 1=3,8 3=3 5=5 8=8 10=10", "0=5 1=3,8 3=3 5=5 8=8 10=10"},
		{"try first", "try e fn x i n 1 n 2", "0=1 1=1", "1=1"}, {"try second", "try e n 1 fn x i n 2", "0=2 2=2", "2=2"},
	} {
		flowed(t, c.text, c.least)
		term := parsedTerm(t, c.text)
		broken := toldFlow(t, term, c.broken)
		if got := webbed(term).broken(broken); len(got) != 1 || got[0].rule != c.rule {
			t.Errorf("the test's own: %s: %v", c.text, got)
		}
		flowIs(t, c.rule, term, broken, false)
		seen[c.rule] = true
	}
	for _, rule := range plainRules() {
		if !seen[rule] {
			t.Error("no case of", rule)
		}
	}
}

// Over many terms: what is the least but for one inclusion breaks that one alone.
func TestFlowOkWithoutOneInclusion(t *testing.T) {
	t.Parallel()
	met := map[string]int{}
	for _, term := range flowTerms(60) {
		w := webbed(term)
		least := plainFlow(term)
		asked := w.fixed()
		for _, fact := range factsOf(least) {
			asked = append(asked, w.met(fact.place, fact.thing)...)
		}
		for _, e := range asked {
			f := w.least(nil, func(other plainEdge) bool { return other == e })
			broken := w.broken(f)
			if len(broken) > 1 || len(broken) == 1 && broken[0] != e {
				t.Fatal("the test's own", e, broken)
			}
			met[e.rule] += len(broken)
			flowIs(t, e.rule, term, f, len(broken) == 0)
		}
	}
	for _, rule := range plainRules() {
		if met[rule] < 10 {
			t.Error("too few", rule, met[rule])
		}
	}
}

// A whole kind of inclusions left out: whether anything is broken by that is told.
func TestFlowOkWithoutOneKindOfInclusions(t *testing.T) {
	t.Parallel()
	met := map[string]int{}
	for _, term := range flowTerms(200) {
		for _, rule := range plainRules() {
			f := webbed(term).least(nil, func(e plainEdge) bool { return e.rule == rule })
			broken := !plainFlowOk(term, f)
			if broken {
				met[rule]++
			}
			flowIs(t, rule, term, f, !broken)
		}
	}
	for _, rule := range plainRules() {
		if met[rule] < 30 {
			t.Error("too few", rule, met[rule])
		}
	}
}

func TestFlowOkOfMore(t *testing.T) {
	for _, c := range []flowCase{
		{"fn x i v x 0", "0=0 1=0 x=0"}, {"fn x i v x 0", "0=0 1=0"}, {"op + n 1 fn x i n 2", "0=2 1=2 2=2 3=2 x=2"}, {"op + n 1 fn x i n 2", "1=2 2=2"}, {"pair n 1 n 2", "0=0 1=0 2=0"}, {"cons n 1 nil i", "0=0 2=0"},
		{"if fn x i n 1 n 2 n 3", "0=1 1=1"}, {"let x 0 fn y i n 1 n 2", "0=1 1=1 x=1"}, {"let x 0 n 1 fn y i n 2", "0=2 2=2 x=2"}, {"try e fn x i n 1 n 2", "0=1 1=1 e=1"}, {"raise i fn x i n 1", "0=1 1=1"},
		{"fst pair fn x i n 1 n 2", "0=1,2 1=1 2=2"}, {"case h r nil i fn x i n 1 n 2", "0=2 2=2 h=2 r=2"}, {"case h r nil i n 1 pair n 2 n 3", "0=3 1=3 3=3"},
		// a call of more: what these ask for is there too
		{"app n 1 fn x i n 2", "1=2 2=2 x=2"}, {"app n 1 fn x i v x 0", "0=2 1=2 2=2 3=2 x=2"}, {"fst op + pair fn x i n 1 n 2 n 3", "0=3 1=2 2=2 3=3"}, {"case h r op + cons fn x i n 1 nil i n 2 n 3 n 4", "1=2 2=2 3=3 h=3"},
	} {
		term := parsedTerm(t, c.text)
		f := toldFlow(t, term, c.want)
		if len(factsOf(f)) <= len(factsOf(plainFlow(term))) {
			t.Error("the test's own: no more", c.text, c.want)
		}
		flowIs(t, "more", term, f, true)
	}
	// and where they are not
	for _, c := range []flowCase{
		{"app n 1 fn x i n 2", "1=2 2=2"}, {"app n 1 fn x i pair n 2 n 3", "1=2 2=2 3=3 x=2"}, {"fst op + pair fn x i n 1 n 2 n 3", "1=2 2=2 3=3"}, {"snd op + pair n 1 fn x i n 2 n 3", "1=2 2=2 4=4"},
		{"case h r op + cons fn x i n 1 nil i n 2 n 3 n 4", "1=2 2=2 3=3"}, {"case h r op + cons n 1 pair n 1 n 2 n 2 n 3 n 4", "1=2 2=2 4=4"}, {"if t n 1 op + fn x i n 2 n 3", "3=4 4=4"}, {"let x 0 op + fn y i n 1 n 2 n 3", "1=2 2=2"},
	} {
		flowIs(t, "more, but not all", parsedTerm(t, c.text), toldFlow(t, parsedTerm(t, c.text), c.want), false)
	}
}

// Over many terms: with more in some lists, and with all that this asks for.
func TestFlowOkOfMoreByChance(t *testing.T) {
	t.Parallel()
	r := rand.New(rand.NewSource(41))
	met := map[bool]int{}
	for _, term := range flowTerms(400) {
		w := webbed(term)
		things := w.things()
		if len(things) == 0 {
			continue
		}
		var facts []plainFact
		for range 1 + r.Intn(4) {
			facts = append(facts, plainFact{r.Intn(w.places), things[r.Intn(len(things))]})
		}
		more := w.least(facts, func(plainEdge) bool { return false })
		flowIs(t, "more", term, more, true)
		// the least with these alone, and any one less of what keeps all
		has := copyFlow(plainFlow(term))
		for _, fact := range facts {
			list := listAt(has, fact.place)
			*list = append(*list, fact.thing)
			slices.Sort(*list)
			*list = slices.Compact(*list)
		}
		for range 5 {
			all := factsOf(more)
			fact := all[r.Intn(len(all))]
			list := slices.Clone(*listAt(more, fact.place))
			less := changedAt(more, fact.place, slices.DeleteFunc(list, func(n int) bool { return n == fact.thing })...)
			for _, f := range []impl.Flow{has, less} {
				want := plainFlowOk(term, f)
				met[want]++
				flowIs(t, "some more", term, f, want)
			}
		}
		every := make([][]int, w.places)
		for i := range every {
			every[i] = things
		}
		flowIs(t, "all", term, w.parted(every), true)
		flowIs(t, "none", term, w.parted(make([][]int, w.places)), false)
	}
	if met[true] < 500 || met[false] < 3000 {
		t.Error("too few", met)
	}
}

func TestFlowOkForm(t *testing.T) {
	term := parsedTerm(t, "let x 0 fn y i pair v y 0 cons n 1 nil i case h r app v x 0 n 1 try e n 1 n 2 v h 0")
	things := []int{1, 2, 4}
	least := asPlainFlow(t, term)
	flowIs(t, "least", term, least, true)
	flowIs(t, "zero", term, impl.Flow{}, false)
	flowIs(t, "no Of", term, impl.Flow{Vars: least.Vars}, false)
	flowIs(t, "no Vars", term, impl.Flow{Of: least.Of}, false)
	flowIs(t, "the other way round", term, impl.Flow{Of: least.Vars, Vars: least.Of}, false)
	for n := range len(least.Of) {
		flowIs(t, "too few of Of", term, impl.Flow{Of: least.Of[:n], Vars: least.Vars}, false)
	}
	for n := range len(least.Vars) {
		flowIs(t, "too few of Vars", term, impl.Flow{Of: least.Of, Vars: least.Vars[:n]}, false)
	}
	for _, n := range []int{1, 2, 1000} {
		for _, list := range [][]int{nil, {}, {1}, {-1}} {
			more := slices.Repeat([][]int{list}, n)
			flowIs(t, "too many of Of", term, impl.Flow{Of: slices.Concat(least.Of, more), Vars: least.Vars}, false)
			flowIs(t, "too many of Vars", term, impl.Flow{Of: least.Of, Vars: slices.Concat(least.Vars, more)}, false)
		}
	}
	// one list moved from the one to the other
	flowIs(t, "one of Of in Vars", term, impl.Flow{Of: least.Of[:len(least.Of)-1], Vars: slices.Concat(least.Of[len(least.Of)-1:], least.Vars)}, false)
	flowIs(t, "one of Vars in Of", term, impl.Flow{Of: slices.Concat(least.Of, least.Vars[:1]), Vars: least.Vars[1:]}, false)
	// all lists have all things, but for one that is not as it must be
	w := webbed(term)
	every := slices.Repeat([][]int{things}, w.places)
	flowIs(t, "all", term, w.parted(every), true)
	for place := range w.places {
		for _, list := range [][]int{
			{4, 2, 1}, {1, 4, 2}, {2, 1, 4}, {1, 1, 2, 4}, {1, 2, 2, 4}, {1, 2, 4, 4}, {1, 2, 4, 1}, {1, 2, 4, 1, 2, 4}, {0, 1, 2, 4}, {1, 2, 3, 4}, {1, 2, 4, 5}, {1, 2, 4, 7}, {-1, 1, 2, 4}, {1, 2, 4, -1}, {1, 2, 4, len(w.nodes) - 1}, {1, 2, 4, len(w.nodes)}, {1, 2, 4, len(w.nodes) + 1}, {1, 2, 4, w.places},
			{1, 2, 4, 63}, {1, 2, 4, 64}, {1, 2, 4, 65}, {1, 2, 4, 149}, {1, 2, 4, 150}, {1, 2, 4, 192}, {1, 2, 4, 256 + 1}, {1, 2, 4, math.MaxInt}, {math.MinInt, 1, 2, 4}, {1, 2, 4, math.MinInt}, {math.MinInt + 1, 1, 2, 4}, {1, 2, 4, 1 << 32}, {1, 2, 4, 1<<32 + 4}, {-64, 1, 2, 4}, {-63, 1, 2, 4},
		} {
			flowIs(t, "list", term, changedAt(w.parted(every), place, list...), false)
		}
	}
	long := make([]int, 1000000)
	for i := range long {
		long[i] = i
	}
	flowIs(t, "a long list", term, changedAt(least, 0, long...), false)
	flowIs(t, "many lists", term, impl.Flow{Of: make([][]int, 1000000), Vars: make([][]int, 1000000)}, false)
}

// A node of each other kind is no thing, in any list.
func TestFlowOkOfWhatIsNoThing(t *testing.T) {
	term := parsedTerm(t, "let x 0 fn y i pair v y 0 cons n 1 nil i fix f 0 f i i fn z i if t fst v z 0 snd v z 0 case h r app v x 0 n 1 try e op + n 1 n 2 raise i n 3 v h 0")
	w := webbed(term)
	things := w.things()
	every := w.parted(slices.Repeat([][]int{things}, w.places))
	flowIs(t, "all", term, every, true)
	kinds := map[int]bool{}
	for node, n := range w.nodes {
		if kinds[n.t.K] = true; slices.Contains(things, node) {
			continue
		}
		list := append(slices.Clone(things), node)
		slices.Sort(list)
		for place := range w.places {
			flowIs(t, "no thing", term, changedAt(every, place, list...), false)
		}
	}
	if len(kinds) != impl.TmTry || len(things) != 4 {
		t.Error("the test's own", kinds, things)
	}
}

// Nil and an empty list are the same.
func TestFlowOkOfEmptyLists(t *testing.T) {
	for _, text := range []string{"n 1", "op + n 1 n 2", "let x 0 n 1 v x 0", "case h r nil i n 1 n 2", "fn x i v x 0", "fix f 0 f i i fn x i v x 0 app v f 0 n 1"} {
		term := parsedTerm(t, text)
		f := asPlainFlow(t, term)
		for i := range f.Of {
			if len(f.Of[i]) == 0 {
				flowIs(t, "empty", term, changedAt(f, i, []int{}...), true)
				flowIs(t, "nil", term, changedAt(f, i), true)
			}
		}
		for i := range f.Vars {
			if len(f.Vars[i]) == 0 {
				flowIs(t, "empty", term, changedAt(f, len(f.Of)+i, []int{}...), true)
			}
		}
	}
	for _, vars := range [][][]int{nil, {}} {
		flowIs(t, "no binders", tmNum(1), impl.Flow{Of: [][]int{{}}, Vars: vars}, true)
		flowIs(t, "no nodes", tmNum(1), impl.Flow{Of: [][]int{}, Vars: vars}, false)
	}
	flowIs(t, "no binders", tmNum(1), impl.Flow{Of: [][]int{nil}, Vars: [][]int{nil}}, false)
}

// P7: over many terms FlowOf is FlowOk and the test's own, and none with one thing less is.
func TestFlowOfIsTheLeast(t *testing.T) {
	t.Parallel()
	facts, most := 0, 0
	for i, term := range flowTerms(1500) {
		f := asPlainFlow(t, term)
		all := factsOf(f)
		most = max(most, len(all))
		if i%5 > 0 {
			continue
		}
		for _, fact := range all {
			facts++
			list := slices.Clone(*listAt(f, fact.place))
			less := changedAt(f, fact.place, slices.DeleteFunc(list, func(n int) bool { return n == fact.thing })...)
			if impl.FlowOk(term, less) {
				t.Errorf("%s: without %v it is FlowOk too", plainTermText(term), fact)
			}
		}
	}
	if facts < 10000 || most < 250 {
		t.Error("too few", facts, most)
	}
}

// P7: whatever is called is among those that may be.
func TestWhatIsCalledMayBe(t *testing.T) {
	t.Parallel()
	met := map[int]int{}
	several := 0
	for i, term := range flowTerms(1500) {
		f := impl.FlowOf(term)
		met[min(5, amongCallees(t, term, f))]++
		asPlainTrace(t, term, i%60)
		asPlainTrace(t, term, i%2000)
		if i%4 == 0 {
			asPlainTrace(t, term, impl.MaxFuel)
		}
		w := webbed(term)
		for node, n := range w.nodes {
			if n.t.K != impl.TmApp && i%10 > 0 {
				continue
			}
			want := w.callees(f, node)
			if got := impl.Callees(term, f, node); !slices.Equal(got, want) {
				t.Errorf("%s: %d: %v, not %v", plainTermText(term), node, got, want)
			}
			if len(want) > 1 {
				several++
			}
		}
	}
	if met[0] < 500 || met[1] < 200 || met[2] < 200 || met[3] < 100 || met[4] < 20 || met[5] < 20 || several < 500 {
		t.Error("too few", met, several)
	}
}

// notReady are right terms that are not ready, each for another reason.
func notReady() map[string]string {
	return map[string]string{
		"let with type variables":         "let f 1 fn x i n 1 app v f 0 n 2",
		"let with two":                    "let f 2 fn x i n 1 app v f 0 n 2",
		"fix with type variables":         "fix f 1 f i i fn x i n 1 app v f 0 n 2",
		"Ts":                              "let f 0 fn x i n 1 app v f 1 i n 2",
		"two Ts":                          "let f 0 fn x i n 1 app v f 2 i b n 2",
		"all of these":                    "let f 1 fn x v0 n 1 app v f 1 i n 2",
		"fn of a type that is not Ground": "app fn x v0 n 1 n 2",
		"far within it":                   "app fn x p i l v1 n 1 n 2",
		"nil of such":                     "app fn x i nil v0 n 2",
		"raise of such":                   "try e app fn x i raise v1 n 1 n 2 n 3",
		"fix of such":                     "fix f 0 f v0 i fn x i n 1 app v f 0 n 2",
		"two of one name":                 "app fn x i n 1 fn x i n 2",
		"one within the other":            "app fn x i fn x i n 1 n 2",
		"fix and its argument":            "fix f 0 f i i fn f i n 1 app v f 0 n 2",
		"case and let":                    "case h r nil i n 1 let h 0 n 1 app fn x i n 1 n 2",
		"case and try":                    "try r n 1 case h r nil i n 1 app fn x i n 1 n 2",
		"a free name":                     "app fn x i v y 0 n 1",
		"free where it is called":         "app v f 0 n 1",
		"bound elsewhere":                 "app fn x i n 1 v x 0",
		"bound in the other part":         "let x 0 app v x 0 n 1 n 2",
		"bound in the last part":          "case h r v r 0 app fn x i n 1 n 2 v h 0",
	}
}

// unready fails when anything is told of what is not ready, whatever else is right.
func unready(t *testing.T, why string, term impl.Term, flows ...impl.Flow) {
	t.Helper()
	if f := impl.FlowOf(term); !zeroFlow(f) {
		t.Error(why, "FlowOf", f)
	}
	for _, f := range append(flows, impl.Flow{}) {
		if impl.FlowOk(term, f) {
			t.Error(why, "FlowOk", f)
		}
		for _, node := range []int{0, 1, 2, 3, 4, 5, 6, 7, -1, 149, 150, math.MaxInt, math.MinInt} {
			if l := impl.Callees(term, f, node); len(l) > 0 {
				t.Error(why, "Callees", node, l)
			}
		}
	}
	for _, fuel := range []int{0, 1, 10, 100, impl.MaxFuel, impl.MaxFuel + 1, -1} {
		if l := impl.Trace(term, fuel); len(l) > 0 {
			t.Error(why, "Trace", fuel, l)
		}
	}
}

func TestFlowsOfWhatIsNotReady(t *testing.T) {
	for why, text := range notReady() {
		term := parsedTerm(t, text)
		if plainReady(term) {
			t.Error("the test's own", why)
		}
		// the flow that the term would have, were it ready
		var flows []impl.Flow
		if len(plainFree(term)) == 0 {
			other := readied(term)
			flows = append(flows, asPlainFlow(t, other))
			if calleesText(other, flows[0]) == "" {
				t.Error("the test's own: nothing to tell", why)
			}
		}
		nodes, names := plainNodes(term), len(bindersInText(text))
		flows = append(flows, impl.Flow{Of: make([][]int, nodes), Vars: make([][]int, names)})
		unready(t, why, term, flows...)
		// within another term as well
		unready(t, why, tmOf(impl.TmPair, tmNum(1), term))
		unready(t, why, tmOf(impl.TmApp, tmFn("other", tyInt, term), tmNum(1)))
	}
	met := 0
	for _, term := range slices.Concat(anyTerms(1500), typedTerms(1500), polyPrograms(200)) {
		if plainReady(term) {
			asPlainFlow(t, term)
			continue
		}
		met++
		unready(t, plainTermText(term), term, impl.Flow{Of: make([][]int, plainNodes(term)), Vars: make([][]int, len(impl.Binders(term)))})
	}
	if met < 2000 {
		t.Error("too few", met)
	}
}

func TestFlowsOfWrongTerms(t *testing.T) {
	for why, term := range wrongTerms() {
		for _, whole := range []impl.Term{term, tmFn("deepest", tyInt, term), tmOf(impl.TmApp, tmFn("deepest", tyInt, tmNum(1)), term)} {
			unready(t, why, whole, impl.Flow{Of: [][]int{nil}}, impl.Flow{Of: make([][]int, 4), Vars: make([][]int, 1)})
			for _, node := range []int{0, 1, 2, -1, 150, math.MaxInt, math.MinInt} {
				if got, ok := impl.NodeAt(whole, node); ok || !zeroTerm(got) {
					t.Error(why, "NodeAt", node, got)
				}
			}
		}
	}
}

// Ready, but of no type: a part that is not what is wanted asks for nothing.
func TestFlowsOfNoType(t *testing.T) {
	t.Parallel()
	flowedAll(t, []flowCase{
		{"app n 1 fn x i n 2", "2=2"}, {"app pair fn x i n 1 n 2 fn y i n 3", "1=1 2=2 5=5"}, {"app cons fn x i n 1 n 2 n 3", "1=1 2=2"}, {"app nil f i i fn x i n 1", "2=2"},
		{"fst fn x i n 1", "1=1"}, {"snd fn x i fn y i n 1", "1=1 2=2"}, {"fst cons fn x i n 1 fn y i n 2", "1=1 2=2 4=4"}, {"snd cons fn x i n 1 fn y i n 2", "1=1 2=2 4=4"}, {"fst n 1", ""},
		{"case h r fn x i n 1 n 2 v h 0", "1=1"}, {"case h r pair fn x i n 1 fn y i n 2 n 3 v h 0", "1=1 2=2 4=4"}, {"case h r pair fn x i n 1 fn y i n 2 n 3 v r 0", "1=1 2=2 4=4"}, {"case h r n 1 fn x i n 2 fn y i n 3", "0=2,4 2=2 4=4"},
		// a list that has what is none behind it
		{"case h r cons n 1 fn x i n 2 n 3 v r 0", "0=3 1=1 3=3 6=3 r=3"}, {"case h r cons n 1 pair n 2 n 3 n 4 fst v r 0", "1=1 3=3 8=3 r=3"},
		// some of what reaches is what is wanted
		{"app if t pair n 1 n 2 if t fn x i v x 0 cons n 3 nil i pair n 4 n 5", "0=13 1=3,8,10 3=3 6=8,10 8=8 9=13 10=10 13=13 x=13"},
		{"fst if t pair fn x i n 1 n 2 if t cons fn y i n 3 n 4 fn z i n 5", "0=4 1=3,9,13 3=3 4=4 7=9,13 9=9 10=10 13=13"},
		{"case h r if t cons fn x i n 1 fn y i n 2 pair fn z i n 3 n 4 n 5 if t v h 0 v r 0", "0=4,6 1=3,8 3=3 4=4 6=6 8=8 9=9 13=4,6 15=4 16=6 h=4 r=6"},
		// the condition, the numbers
		{"if fn x i n 1 fn y i n 2 n 3", "0=3 1=1 3=3"}, {"op + cons n 1 n 2 fn x i n 3", "1=1 4=4"}, {"raise i cons n 1 n 2", "1=1"}, {"cons fn x i n 1 fn y i n 2", "0=0 1=1 3=3"},
	})
	calledAll(t, []callCase{
		{"app n 1 app fn x i n 2 n 3", "2=3", "2>3"}, {"app app n 1 n 2 app fn x i n 2 n 3", "4=5", ""}, {"app if t n 1 fn x i n 2 n 3", "0=4", ""}, {"try e app n 1 n 2 app fn x i n 2 v e 0", "4=5", "4>5"},
		{"app fst fn x i n 1 n 2", "", ""}, {"app fst if t fn x i n 1 pair fn y i n 2 n 3 n 4", "0=7", ""}, {"try e app case h r fn x i n 1 n 2 v h 0 n 3 app fn y i n 4 n 5", "8=9", "8>9"},
		{"fix f 0 i fn x i app v x 0 v f 0 app v f 0 fn y i app v y 0 n 1", "2=7 5=1 8=1", "5>1 2>7 8>1"},
	})
	met := 0
	for _, term := range wiredTerms(1500) {
		if _, code := impl.TypeOf(term); code != impl.CheckType || !impl.TermOk(term) {
			continue
		}
		met++
		amongCallees(t, term, asPlainFlow(t, term))
	}
	if met < 1000 {
		t.Error("too few", met)
	}
}

// calleesAt fails when Callees of each number is not as the flow tells.
func calleesAt(t *testing.T, term impl.Term, f impl.Flow, right bool) {
	t.Helper()
	nodes := plainNodes(term)
	for node := range nodes {
		var want []int
		if right {
			want = webbed(term).callees(f, node)
		}
		if got := impl.Callees(term, f, node); !slices.Equal(got, want) {
			t.Errorf("%s: %d by %s: %v, not %v", plainTermText(term), node, flowText(term, f), got, want)
		}
	}
	for _, node := range []int{-1, -2, -nodes, nodes, nodes + 1, 149, 150, 151, 1 << 32, -1 << 32, math.MaxInt, math.MinInt, math.MaxInt - 1, math.MinInt + 1} {
		if node >= 0 && node < nodes {
			continue
		}
		if got := impl.Callees(term, f, node); len(got) > 0 {
			t.Errorf("%s: %d: %v", plainTermText(term), node, got)
		}
	}
}

func TestCallees(t *testing.T) {
	texts := []string{
		"n 1", "app fn x i n 1 n 2", "app n 1 n 2", "let f 0 if t fn x i n 1 fn y i n 2 op + app v f 0 n 3 app v f 0 n 4", "app if t pair fn x i n 1 fn y i n 2 if t fn z i n 3 cons n 4 nil i n 5",
		"fix f 0 f i i fn x i app v f 0 v x 0 app v f 0 n 1", "fn f i app app v f 0 n 1 app fn x i n 2 n 3", "case h r cons fn x i n 1 nil f i i n 0 app v h 0 n 2", "pair app fn x i v x 0 fn y i n 1 try e app fn z i n 1 n 2 n 3",
	}
	for _, text := range texts {
		term := parsedTerm(t, text)
		w := webbed(term)
		least := asPlainFlow(t, term)
		calleesAt(t, term, least, true)
		// a greater one: all functions, and nothing but these
		every := w.parted(slices.Repeat([][]int{w.things()}, w.places))
		calleesAt(t, term, every, true)
		for _, thing := range w.things() {
			calleesAt(t, term, w.least([]plainFact{{w.places - 1, thing}, {0, thing}}, func(plainEdge) bool { return false }), true)
		}
		// ones that are not FlowOk, though the call's own list is right
		for _, fact := range factsOf(least) {
			list := slices.DeleteFunc(slices.Clone(*listAt(least, fact.place)), func(n int) bool { return n == fact.thing })
			calleesAt(t, term, changedAt(least, fact.place, list...), false)
		}
		for place := range w.places {
			calleesAt(t, term, changedAt(every, place, -1), false)
			calleesAt(t, term, changedAt(every, place, append(slices.Clone(w.things()), len(w.nodes))...), false)
		}
		calleesAt(t, term, impl.Flow{}, false)
		calleesAt(t, term, impl.Flow{Of: least.Of, Vars: append(slices.Clone(least.Vars), nil)}, false)
	}
}

// The flow of another term is not this one's, though it has as many lists.
func TestCalleesByTheFlowOfAnother(t *testing.T) {
	first, second := parsedTerm(t, "app fn x i n 1 fn y i n 2"), parsedTerm(t, "app fn x i fn y i n 1 n 2")
	flowIs(t, "another's", first, plainFlow(second), false)
	flowIs(t, "another's", second, plainFlow(first), false)
	calleesAt(t, first, plainFlow(second), false)
	calleesAt(t, second, plainFlow(first), false)
	// names do not count, only their order
	other := parsedTerm(t, "app fn q b n 7 fn p l i t")
	flowIs(t, "with other names", other, plainFlow(first), true)
	calleesAt(t, other, plainFlow(first), true)
}

// traced fails when Trace of the text with each fuel, from 0 on, is not this; each token has the fuel with which that call is met first.
func traced(t *testing.T, text string, told string) {
	t.Helper()
	term := parsedTerm(t, text)
	tokens := strings.Fields(told)
	for fuel := range 300 {
		var want []string
		for _, token := range tokens {
			with, call, _ := strings.Cut(token, ":")
			if toldNumber(t, with) <= fuel {
				want = append(want, call)
			}
		}
		if got := traceText(impl.Trace(term, fuel)); got != strings.Join(want, " ") {
			t.Errorf("%s: with %d: %q, not %q", text, fuel, got, want)
			return
		}
		asPlainTrace(t, term, fuel)
	}
}

// The call is met once the function and its argument are there, ahead of the body.
func TestTraceFuel(t *testing.T) {
	for text, told := range map[string]string{
		"app fn x i n 1 n 2":                                                "3:0>1",
		"app app fn x i fn y i n 1 n 2 n 3":                                 "4:1>2 6:0>3",
		"app fn x i n 1 app fn y i n 2 n 3":                                 "5:3>4 6:0>1",
		"app fn x i app fn y i n 1 v x 0 n 3":                               "3:0>1 6:2>3",
		"op + app fn x i n 1 n 2 app fn y i n 3 n 4":                        "4:1>2 8:5>6",
		"pair app fn x i n 1 n 2 app fn y i n 3 n 4":                        "4:1>2 8:5>6",
		"let f 0 fn x i v x 0 app v f 0 app v f 0 n 1":                      "7:5>1 8:3>1",
		"if app fn x i t n 1 app fn y i n 2 n 3 n 4":                        "4:1>2 8:5>6",
		"case h r app fn x i cons v x 0 nil i n 1 n 2 app fn y i n 3 v h 0": "4:1>2 10:8>9",
		// a TmFix takes two
		"fix f 0 f i i fn x i v x 0 app v f 0 n 1":                                  "5:3>1",
		"fix f 0 f i i fn x i v x 0 fix g 0 f i i fn y i n 1 app v g 0 n 2":         "7:6>4",
		"let a 0 fix f 0 f i i fn x i v x 0 v f 0 app v a 0 n 1":                    "7:5>2",
		"app fn x i fix f 0 f i i fn y i n 1 app v f 0 n 2 n 3":                     "3:0>1 8:5>3",
		"fix f 0 f i i fn x i app v f 0 v x 0 app v f 0 n 1":                        "5:5>1 8:2>1",
		"fix f 0 f i i fn x i fix g 0 f i i fn y i n 1 app v f 0 n 2 n 1":           "",
		"fix f 0 f i i fn x i fix g 0 f i i fn y i n 1 v g 0 app app v f 0 n 1 n 2": "6:7>1 10:6>3",
	} {
		traced(t, text, told)
	}
}

// Just enough and one less: a TmFix that is evaluated many times takes one more each time.
func TestTraceTakesMoreOfTheFuel(t *testing.T) {
	for n := range 5 {
		// f counts down; each time it makes a g by a TmFix, and at last it calls h
		text := "fix f 0 f i i fn x i if op < v x 0 n 1 app fn h i n 0 n 1 fix g 0 f i i fn y i app v f 0 v y 0 app v g 0 op - v x 0 n 1 app v f 0 n " + strconv.Itoa(n)
		term := parsedTerm(t, text)
		calls, all := plainTrace(term, impl.MaxFuel)
		if steps := impl.Steps(term, impl.MaxFuel); all != steps+n+1 {
			t.Error("the test's own", n, all, steps)
		}
		for fuel := range all + 3 {
			asPlainTrace(t, term, fuel)
		}
		// the last call is met one step ahead of the end
		if got := impl.Trace(term, all-1); !slices.Equal(got, calls) {
			t.Error(n, "with enough for all calls", got)
		}
		if got := impl.Trace(term, all-2); !slices.Equal(got, calls[:len(calls)-1]) {
			t.Error(n, "with one less", got)
		}
	}
}

func TestTraceAtTheGreatestFuel(t *testing.T) {
	met := map[bool]int{}
	for n := 1000; n < 3000; n += 50 {
		// counts down, then calls another
		term := parsedTerm(t, filled("fix f 0 f i i fn x i if op < v x 0 n 1 app fn y i n 7 n 8 app v f 0 op - v x 0 n 1 app v f 0 n #", strconv.Itoa(n)))
		want, _ := asPlainTrace(t, term, impl.MaxFuel)
		met[len(want) == 3]++
		asPlainTrace(t, term, impl.MaxFuel-1)
		for _, fuel := range []int{impl.MaxFuel + 1, -1, -2, impl.MaxFuel * 2, math.MaxInt, math.MinInt} {
			if got := impl.Trace(term, fuel); len(got) > 0 {
				t.Error(fuel, got)
			}
		}
		if got := impl.Trace(term, 0); len(got) > 0 {
			t.Error(got)
		}
	}
	if met[true] < 10 || met[false] < 10 {
		t.Error("too few", met)
	}
}

// 20000 just enough for the last call, and one step too little.
func TestTraceJustToTheGreatestFuel(t *testing.T) {
	t.Parallel()
	// each round takes 9 steps: if, op, x, 1, app, f, op, x, 1
	loop := "fix f 0 f i i fn x i if op < v x 0 n 1 app fn y i n 7 n 8 app v f 0 op - v x 0 n 1 app v f 0 n #"
	met := map[int]bool{}
	for wait := range 12 {
		for n := 2215; n < 2225; n++ {
			term := parsedTerm(t, filled(loop, strconv.Itoa(n)))
			for i := range wait {
				term = tmTry("e"+strconv.Itoa(i), term, tmNum(0))
			}
			want, steps := plainTrace(term, impl.MaxFuel)
			got := impl.Trace(term, impl.MaxFuel)
			if !slices.Equal(got, want) {
				t.Error(n, wait, got, want)
			}
			if steps >= impl.MaxFuel-1 {
				met[len(want)] = true
			}
		}
	}
	if !met[2] || !met[3] {
		t.Error("too few", met)
	}
}

func TestTraceOrder(t *testing.T) {
	calledAll(t, []callCase{
		// each once, where it is met first
		{"let f 0 fn x i v x 0 let g 0 fn y i app v f 0 v y 0 op + app v g 0 n 1 op + app v f 0 n 2 app v g 0 n 3", "5=1 9=4 13=1 16=4", "9>4 5>1 13>1 16>4"},
		{"fix f 0 f i i fn x i if op < v x 0 n 1 n 0 op + app v f 0 op - v x 0 n 1 app v f 0 op - v x 0 n 2 app v f 0 n 3", "8=1 13=1 18=1", "18>1 8>1 13>1"},
		{"let ap 0 fn g f i i app v g 0 n 1 let a 0 fn x i v x 0 let b 0 fn y i n 2 op + app v ap 0 v b 0 op + app v ap 0 v a 0 app v ap 0 v b 0", "2=6,9 12=1 16=1 19=1", "12>1 2>9 16>1 2>6 19>1"},
		// the argument's calls come ahead of the call, the function's ahead of these
		{"app app fn a i fn b i n 1 n 2 app fn c i n 3 n 4", "0=3 1=2 6=7", "1>2 6>7 0>3"},
		// two functions at one place, in the order in which they come
		{"fix f 0 f b i fn x b let g 0 if v x 0 fn y i n 1 fn z i n 2 let d 0 app v g 0 n 3 if v x 0 app v f 0 u v d 0 app v f 0 t", "10=5,7 15=1 19=1", "19>1 10>5 15>1 10>7"},
		{"fix f 0 f b i fn x b let g 0 if v x 0 fn y i n 1 fn z i n 2 let d 0 app v g 0 n 3 if v x 0 v d 0 app v f 0 t app v f 0 u", "10=5,7 16=1 19=1", "19>1 10>7 16>1 10>5"},
	})
}

func TestTraceOfRaises(t *testing.T) {
	calledAll(t, []callCase{
		// within what is tried
		{"try e app fn x i raise i v x 0 n 1 app fn y i n 2 v e 0", "1=2 6=7", "1>2 6>7"}, {"try e app fn x i n 1 n 2 app fn y i n 2 v e 0", "1=2 5=6", "1>2"},
		{"try e op + app fn x i n 1 n 2 raise i n 3 app fn y i n 2 v e 0", "2=3 8=9", "2>3 8>9"}, {"try e try d raise i n 1 raise i app fn x i n 2 v d 0 app fn y i n 3 v e 0", "5=6 9=10", "5>6 9>10"},
		// behind a raise nothing is called
		{"op + raise i n 1 app fn x i n 1 n 2", "3=4", ""}, {"app raise f i i n 1 app fn x i n 1 n 2", "3=4", ""}, {"app fn x i n 1 raise i n 2", "0=1", ""}, {"app fn x i n 1 op + n 1000000 n 1", "0=1", ""}, {"let a 0 raise i n 1 app fn x i n 1 n 2", "3=4", ""},
		{"pair raise i n 1 app fn x i n 1 n 2", "3=4", ""}, {"if raise b n 1 app fn x i n 1 n 2 app fn y i n 1 n 2", "3=4 7=8", ""}, {"raise i app fn x i n 1 n 2", "1=2", "1>2"}, {"op + app fn x i n 1 n 2 raise i n 1", "1=2", "1>2"},
		// a call that raises is one, too
		{"app fn x i raise i v x 0 n 2", "0=1", "0>1"}, {"app fn x i raise i app fn y i n 1 n 2 n 2", "0=1 3=4", "0>1 3>4"},
		// what is no function
		{"app n 1 n 2", "", ""}, {"app n 1 app fn x i n 1 n 2", "2=3", "2>3"}, {"app t raise i app fn x i n 1 n 2", "3=4", "3>4"}, {"try e app nil i app fn x i n 1 n 2 app fn y i n 1 v e 0", "3=4 7=8", "3>4 7>8"},
		{"let f 0 if t pair n 1 n 2 fn x i n 1 app v f 0 n 1", "8=6", ""},
		// a function made within what is tried and called behind it
		{"app try e let k 0 n 1 fn x i op + v x 0 v k 0 raise f i i v e 0 n 2", "0=4", "0>4"},
	})
	// no fuel is no raise
	for fuel := range 20 {
		got := traceText(impl.Trace(parsedTerm(t, "try e fix f 0 f i i fn x i app v f 0 v x 0 app v f 0 n 1 app fn y i n 1 n 2"), fuel))
		if want := []string{"", "6>2", "6>2 3>2"}[min(max(fuel-5, 0), 1)+min(max(fuel-8, 0), 1)]; got != want {
			t.Error(fuel, got, want)
		}
	}
}

// Trace runs as Run does but for the fuel of TmFix, step by step.
func TestTraceStepByStep(t *testing.T) {
	t.Parallel()
	met := 0
	for _, term := range slices.Concat(calledTerms(150), loopTerms(60)) {
		term = readied(term)
		_, all := plainTrace(term, impl.MaxFuel)
		for fuel := range min(all+2, 150) {
			calls, _ := asPlainTrace(t, term, fuel)
			met += len(calls)
		}
		for _, fuel := range []int{all / 3, all / 2, all - 1, all, all + 1} {
			if fuel >= 0 && fuel <= impl.MaxFuel {
				asPlainTrace(t, term, fuel)
			}
		}
	}
	if met < 5000 {
		t.Error("too few", met)
	}
}

// Without a TmFix it is just the fuel of Run; with less, what comes is the beginning of what comes with more.
func TestTraceWithMoreFuel(t *testing.T) {
	for _, term := range flowTerms(200) {
		var last [][2]int
		for _, fuel := range []int{0, 1, 2, 3, 5, 8, 13, 21, 34, 55, 89, 144, 500, 2000, impl.MaxFuel} {
			calls := impl.Trace(term, fuel)
			if len(calls) < len(last) || !slices.Equal(calls[:len(last)], last) {
				t.Errorf("%s: with %d: %v, with less %v", plainTermText(term), fuel, calls, last)
			}
			last = calls
		}
		if steps := impl.Steps(term, impl.MaxFuel); !strings.Contains(plainTermText(term), "fix ") && !slices.Equal(impl.Trace(term, steps), last) {
			t.Errorf("%s: with the fuel that Run takes: %v, not %v", plainTermText(term), impl.Trace(term, steps), last)
		}
	}
}

// nodesAre fails when NodeAt of each number is not the term there.
func nodesAre(t *testing.T, term impl.Term) {
	t.Helper()
	nodes := plainNodesIn(&term)
	for i, n := range nodes {
		if got, ok := impl.NodeAt(term, i); !ok || !equalTerms(got, *n.t) || !impl.SameTerm(got, *n.t) {
			t.Errorf("%s: %d: %v and %q, not %q", plainTermText(term), i, ok, impl.TermText(got), plainTermText(*n.t))
		}
	}
	for _, i := range []int{len(nodes), len(nodes) + 1, -1, -2, -len(nodes), 1000, 1 << 32, -1 << 32, 1<<32 + 1, math.MaxInt, math.MinInt, math.MaxInt - 1, math.MinInt + 1} {
		if got, ok := impl.NodeAt(term, i); ok || !zeroTerm(got) {
			t.Errorf("%s: %d: %v and %v", plainTermText(term), i, ok, got)
		}
	}
}

func TestNodeAt(t *testing.T) {
	t.Parallel()
	for text, want := range map[string][]string{
		"n 7":                           {"n 7"},
		"v x 2 i b":                     {"v x 2 i b"},
		"fn x p i v0 v x 0":             {"fn x p i v0 v x 0", "v x 0"},
		"op + v x 0 n 1":                {"op + v x 0 n 1", "v x 0", "n 1"},
		"if t n 1 n 2":                  {"if t n 1 n 2", "t", "n 1", "n 2"},
		"pair fst n 1 snd u":            {"pair fst n 1 snd u", "fst n 1", "n 1", "snd u", "u"},
		"let x 1 fn y v0 v y 0 v x 1 b": {"let x 1 fn y v0 v y 0 v x 1 b", "fn y v0 v y 0", "v y 0", "v x 1 b"},
		"fix f 0 f i i fn x i app v f 0 v x 0 v f 0":        {"fix f 0 f i i fn x i app v f 0 v x 0 v f 0", "fn x i app v f 0 v x 0", "app v f 0 v x 0", "v f 0", "v x 0", "v f 0"},
		"case h r cons n 1 nil i raise b n 2 try e t v h 0": {"case h r cons n 1 nil i raise b n 2 try e t v h 0", "cons n 1 nil i", "n 1", "nil i", "raise b n 2", "n 2", "try e t v h 0", "t", "v h 0"},
		"pair pair pair n 1 n 2 n 3 pair n 4 n 5":           {"pair pair pair n 1 n 2 n 3 pair n 4 n 5", "pair pair n 1 n 2 n 3", "pair n 1 n 2", "n 1", "n 2", "n 3", "pair n 4 n 5", "n 4", "n 5"},
	} {
		term := parsedTerm(t, text)
		for i, told := range want {
			if got, ok := impl.NodeAt(term, i); !ok || impl.TermText(got) != told {
				t.Errorf("%s: %d: %v and %q, not %q", text, i, ok, impl.TermText(got), told)
			}
		}
		if len(want) != plainNodes(term) {
			t.Error("the test's own", text)
		}
		nodesAre(t, term)
	}
	// of any right term, ready or not
	for _, text := range notReady() {
		nodesAre(t, parsedTerm(t, text))
	}
	for _, term := range slices.Concat(anyTerms(800), typedTerms(400), polyPrograms(100), flowTerms(100), []impl.Term{mostBinders("x", "y"), deepestLets("x"), sumOfNodes(150), termOfNodes(150)}) {
		nodesAre(t, term)
	}
	for _, c := range kindCases() {
		nodesAre(t, c.term)
	}
	for _, wrap := range wraps() {
		nodesAre(t, wrapped(wrap, 2, tmVar("free")))
	}
}

// callsOf has so many calls beside each other, as flat as can be, each of what call makes.
func callsOf(n int, call func(i int) impl.Term) impl.Term {
	all := make([]impl.Term, n)
	for i := range all {
		all[i] = call(i)
	}
	for len(all) > 1 {
		var next []impl.Term
		for i := 0; i+1 < len(all); i += 2 {
			next = append(next, tmOp(1, all[i], all[i+1]))
		}
		if len(all)%2 == 1 {
			next = append(next, all[len(all)-1])
		}
		all = next
	}
	return all[0]
}

// Many functions that reach many calls: each of both reaches each.
func TestFlowOfManyFunctions(t *testing.T) {
	// by one list: 18 functions in it, 20 calls of what comes out of it
	list := tmNil(tyInt)
	for i := range 18 {
		list = tmOf(impl.TmCons, tmFn("f"+strconv.Itoa(i), tyInt, tmVar("f"+strconv.Itoa(i))), list)
	}
	next := tmOf(impl.TmApp, tmVar("go"), tmVar("r"))
	sum := callsOf(20, func(i int) impl.Term { return tmOf(impl.TmApp, tmVar("h"), tmVar("h")) })
	whole := tmFix("go", 0, tyInt, tmFn("l", tyInt, tmCase("h", "r", tmVar("l"), tmNum(0), tmOf(impl.TmPair, sum, next))), tmOf(impl.TmApp, tmVar("go"), list))
	if plainNodes(whole) > 150 || plainDepth(whole) > 24 || !plainReady(whole) {
		t.Fatal("the test's own", plainNodes(whole), plainDepth(whole))
	}
	f := asPlainFlow(t, whole)
	met := 0
	for node := range plainNodes(whole) {
		if len(impl.Callees(whole, f, node)) == 18 {
			met++
		}
	}
	if met != 20 {
		t.Error("each reaches each", met)
	}
	amongCallees(t, whole, f)
	// by what each gives back: 20 functions that may all come out of one, and are called with themselves
	all := tmOf(impl.TmApp, tmVar("w"), tmVar("w"))
	for i := range 19 {
		s := "g" + strconv.Itoa(i)
		all = tmOf(impl.TmIf, tmBool(0), tmFn(s, tyInt, tmOf(impl.TmApp, tmVar(s), tmVar(s))), all)
	}
	whole = tmFix("w", 0, tyInt, tmFn("x", tyInt, all), tmOf(impl.TmApp, tmVar("w"), tmVar("w")))
	if plainNodes(whole) > 150 || plainDepth(whole) > 24 || !plainReady(whole) {
		t.Fatal("the test's own", plainNodes(whole), plainDepth(whole))
	}
	f = asPlainFlow(t, whole)
	amongCallees(t, whole, f)
	for _, fact := range factsOf(f) {
		less := slices.DeleteFunc(slices.Clone(*listAt(f, fact.place)), func(n int) bool { return n == fact.thing })
		flowIs(t, "less", whole, changedAt(f, fact.place, less...), false)
	}
}

// Terms of 150 nodes and of 24 deep.
func TestFlowOfTheGreatestTerms(t *testing.T) {
	whole := readied(mostBinders("x", "y"))
	if plainNodes(whole) != 150 || plainDepth(whole) != 24 {
		t.Fatal("the test's own")
	}
	asPlainFlow(t, whole)
	asPlainTrace(t, whole, impl.MaxFuel)
	nodesAre(t, whole)
	// 150 nodes, each of them a thing or an end, the last one the number 149
	pairs := evenTerm(termOfNodes(149))
	for _, n := range plainNodesIn(&pairs) {
		if n.t.K == impl.TmVar {
			*n.t = tmNum(1)
		}
	}
	pairs = tmOf(impl.TmFst, pairs)
	if f := asPlainFlow(t, pairs); len(factsOf(f)) != len(webbed(pairs).things())+1 || plainNodes(pairs) != 150 {
		t.Error(flowText(pairs, f))
	}
	// each number that a thing can have
	for ahead := 1; ahead <= 147; ahead++ {
		for _, thing := range []impl.Term{tmFn("y", tyInt, tmNum(1)), tmOf(impl.TmPair, tmNum(1), tmNum(2)), tmOf(impl.TmCons, tmNum(1), tmNil(tyInt))} {
			whole := tmLet("x", 0, sumOfNodes(ahead), thing)
			if !impl.TermOk(whole) {
				continue
			}
			if f := asPlainFlow(t, whole); !slices.Equal(f.Of[0], []int{ahead + 1}) {
				t.Error("the test's own", ahead, f.Of[0])
			}
		}
	}
	// a function handed through 23 names, and one through as many calls
	lets := readied(deepestLets("x"))
	asPlainFlow(t, lets)
	hand := tmFn("x", tyInt, tmNum(1))
	for i := range 22 {
		s := "h" + strconv.Itoa(i)
		hand = tmOf(impl.TmApp, tmFn(s, tyInt, tmVar(s)), hand)
	}
	if got := asPlainFlow(t, hand); plainDepth(hand) != 24 || len(got.Of[0]) != 1 {
		t.Error("the test's own", flowText(hand, got))
	}
	if calls := impl.Trace(hand, impl.MaxFuel); len(calls) != 22 || calls[0][0] <= calls[21][0] {
		t.Error(calls)
	}
	asPlainTrace(t, hand, impl.MaxFuel)
	for _, nodes := range []int{148, 149, 150} {
		k := 0
		whole := letsOfNodes(nodes, func() string { k++; return "x" + strconv.Itoa(k) }, tmOf(impl.TmPair, tmNum(1), tmNum(2)))
		if plainNodes(whole) <= 150 {
			asPlainFlow(t, whole)
		}
		whole = letsOfNodes(nodes, func() string { k++; return "x" + strconv.Itoa(k) }, tmNum(7))
		asPlainFlow(t, whole)
		nodesAre(t, whole)
	}
	for _, wrap := range wraps() {
		for _, times := range []int{1, 22, 23} {
			if whole := wrapped(wrap, times, tmNum(1)); impl.TermOk(whole) {
				whole = readied(whole)
				asPlainFlow(t, whole)
				asPlainTrace(t, whole, impl.MaxFuel)
			}
		}
	}
}

// The flow goes by the binders' order, not by their names, and not by types.
func TestFlowForgetsNamesAndTypes(t *testing.T) {
	for _, term := range wiredTerms(300) {
		other := evenTerm(readied(term))
		for _, n := range plainNodesIn(&other) {
			if n.t.T.K != 0 {
				n.t.T = tyList(tyPair(tyBool, tyFun(tyInt, tyInt)))
			}
		}
		if !sameFlow(impl.FlowOf(term), impl.FlowOf(other)) || !slices.Equal(impl.Trace(term, 5000), impl.Trace(other, 5000)) {
			t.Error(plainTermText(term))
		}
	}
}

// flowArguments are terms of all sorts, right and wrong, ready and not.
func flowArguments() []impl.Term {
	all := slices.Concat(flowTerms(60), anyTerms(60), []impl.Term{mostBinders("x", "y"), readied(mostBinders("x", "y")), deepestLets("x"), termOfNodes(151), sumOfNodes(150)})
	for _, c := range kindCases() {
		all = append(all, c.term)
	}
	for _, term := range wrongFields() {
		all = append(all, term)
	}
	return all
}

func TestFlowArgumentsStay(t *testing.T) {
	t.Parallel()
	for _, term := range flowArguments() {
		roomy := roomyTerm(term)
		f := roomyFlow(impl.FlowOf(term))
		if zeroFlow(f) {
			f = roomyFlow(impl.Flow{Of: [][]int{{1, 2}, {0}}, Vars: [][]int{{1}, nil}})
		}
		kept, keptFlow := fullTerm(roomy), fullFlow(f)
		impl.FlowOf(roomy)
		impl.FlowOk(roomy, f)
		for node := range impl.NodesOf(roomy) + 1 {
			impl.Callees(roomy, f, node)
			impl.NodeAt(roomy, node)
		}
		impl.Trace(roomy, 500)
		if !reflect.DeepEqual(fullTerm(roomy), kept) || !reflect.DeepEqual(fullFlow(f), keptFlow) {
			t.Fatal("an argument was written to", term)
		}
	}
}

// What lies behind a list's length is not there.
func TestFlowSpareRoomIsNotRead(t *testing.T) {
	t.Parallel()
	for _, term := range flowArguments() {
		roomy := roomyTerm(term)
		f := impl.FlowOf(term)
		if !sameFlow(impl.FlowOf(roomy), f) || !slices.Equal(impl.Trace(roomy, 500), impl.Trace(term, 500)) {
			t.Error(impl.TermText(term))
		}
		if impl.FlowOk(roomy, roomyFlow(f)) != impl.FlowOk(term, f) {
			t.Error("FlowOk", impl.TermText(term))
		}
		for node := range impl.NodesOf(term) + 1 {
			if !slices.Equal(impl.Callees(roomy, roomyFlow(f), node), impl.Callees(term, f, node)) {
				t.Error("Callees", node, impl.TermText(term))
			}
			want, there := impl.NodeAt(term, node)
			if got, ok := impl.NodeAt(roomy, node); ok != there || !equalTerms(got, want) {
				t.Error("NodeAt", node, impl.TermText(term))
			}
		}
	}
	// a list that lies in the room of another
	term := parsedTerm(t, "if t fn x i n 1 fn y i n 2")
	room := []int{2, 4, 4, 2, 4}
	f := impl.Flow{Of: [][]int{room[:2], nil, room[:1], room[:0], room[1:2], room[2:2]}, Vars: [][]int{room[:0], room[3:3]}}
	flowIs(t, "one room", term, f, true)
	if !slices.Equal(room, []int{2, 4, 4, 2, 4}) {
		t.Error("written into the room", room)
	}
}

func TestFlowAnswersAreNewMemory(t *testing.T) {
	t.Parallel()
	// with one list at many places
	shared := tmFn("x", tyPair(tyList(tyInt), tyBool), tmVar("x"))
	same := tmOf(impl.TmPair, tmNum(1), tmNum(2))
	for _, term := range append(flowArguments(), tmShared(4, same), tmOf(impl.TmApp, shared, tmShared(3, same)), tmShared(3, shared)) {
		first, second := impl.FlowOf(term), impl.FlowOf(term)
		answers := append(flowPlaces(first), flowPlaces(second)...)
		ownPlaces(t, "FlowOf "+impl.TermText(term), answers)
		answers, arguments := nil, flowPlaces(first)
		for node := range impl.NodesOf(term) {
			answers = append(answers, intPlaces(impl.Callees(term, first, node))...)
			answers = append(answers, intPlaces(impl.Callees(term, first, node))...)
		}
		ownPlaces(t, "Callees "+impl.TermText(term), answers, arguments)
		answers = nil
		for _, calls := range [][][2]int{impl.Trace(term, 300), impl.Trace(term, 300)} {
			room := calls[:cap(calls)]
			for i := range room {
				answers = append(answers, &room[i])
			}
		}
		ownPlaces(t, "Trace "+impl.TermText(term), answers)
		answers = nil
		for node := range impl.NodesOf(term) {
			at, _ := impl.NodeAt(term, node)
			answers = append(answers, placesOf(at)...)
		}
		ownPlaces(t, "NodeAt "+impl.TermText(term), answers, placesOf(term))
	}
}

// Nothing is kept from one call to another.
func TestFlowsKeepNothing(t *testing.T) {
	all := flowTerms(150)
	var flows []impl.Flow
	var traces []string
	for _, term := range all {
		flows = append(flows, impl.FlowOf(term))
		traces = append(traces, traceText(impl.Trace(term, 700)))
	}
	for i, term := range slices.Backward(all) {
		other := all[len(all)-1-i]
		impl.FlowOk(other, flows[i])
		impl.Callees(other, flows[i], 0)
		if !sameFlow(impl.FlowOf(term), flows[i]) || traceText(impl.Trace(term, 700)) != traces[i] || !impl.FlowOk(term, flows[i]) {
			t.Error(plainTermText(term))
		}
	}
}
