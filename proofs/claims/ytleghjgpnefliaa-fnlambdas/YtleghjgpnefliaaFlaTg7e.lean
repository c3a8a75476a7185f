/-
  What the model's 'l3Part' comes to, given 'l3Type' one level below.
-/
import Derived.Test.YtleghjgpnefliaaFlaTg7a
import Derived.Test.YtleghjgpnefliaaFlaTg7b
import Derived.Test.YtleghjgpnefliaaFlaTg7c
import Derived.Test.YtleghjgpnefliaaFlaTg7d
namespace Go.Proofs.Ytleghjgpnefliaa
open Go.RowKit
set_option linter.unusedVariables false
theorem l3Part_q (n:Nat) (IH:SaidTp n) (P:Nat→Prop) (p L B D d m:Nat) (t:Tm) (a1:Option Addr) (l1 c1:Nat) (a2:Option Addr) (l2 c2:Nat) (a3:Option Addr) (l3 c3:Nat) (i:Nat) (u:Tr) (fa:Option Addr) (fl fc:Nat) (v:Value) (es:List Ev) (vs:Int) (w:World) (hp:p < w.heap.size) (hPp:∀ k,P k→p+1≤k) (hPn:∀ k,w.heap.size≤k→P k) (hLB:∀ k,L≤k→k < B→P k) (hB:B≤w.heap.size) (hD:D≤14) (hf:Fm L B w D d t a1 l1 a2 l2 a3 l3) (hm:nodesM (n+1) t=some m) (hi:i < t.A.length) (hu:HsQ P w 14 fa fl u.A) (hur:0 < i→∃ m,nodesW 6 u=some m) (hu6:t.K=14→0 < i→u.K=6) (hE:EnQ P w 14 v es) (hR:∀ e ∈ es,∃ m,nodesW 6 e.t=some m) (hl:es.length+2 * (n+1)≤900) :
    Calls Try.prog 80 #[.agg #[.int .i64 t.K,.int .i64 t.N,.string t.S,.string t.Z,.int .i64 t.T.K,.int .i64 t.T.N,.slice a1 l1 c1,.slice a2 l2 c2,.slice a3 l3 c3],.int .i64 (i:Int),.agg #[.int .i64 u.K,.int .i64 u.N,.slice fa fl fc],v,.int .i64 vs] w fun e w'=>CkQ P e w'∧Below w.heap.size w w':=by
  obtain ⟨_,_,hsh⟩:=nodeM_kinds (nodesM_inv hm).1
  by_cases h4:t.K=4
  · have:shP t.K=1:=by rw [h4];decide
    obtain rfl:i=0:=by omega
    exact part_4_0 n IH P p L B D d m t a1 l1 c1 a2 l2 c2 a3 l3 c3 h4 u fa fl fc v es vs w hp hPp hPn hLB hB hD hf hm hi hu hur hE hR hl
  by_cases h6:t.K=6
  · have:shP t.K=2:=by rw [h6];decide
    have:i=0∨i=1:=by omega
    rcases this with rfl | rfl
    · exact part_6_0 n IH P p L B D d m t a1 l1 c1 a2 l2 c2 a3 l3 c3 h6 u fa fl fc v es vs w hp hPp hPn hLB hB hD hf hm hi hu hur hE hR hl
    · exact part_6_1 n IH P p L B D d m t a1 l1 c1 a2 l2 c2 a3 l3 c3 h6 u fa fl fc v es vs w hp hPp hPn hLB hB hD hf hm hi hu hur hE hR hl
  by_cases h7:t.K=7
  · have:shP t.K=2:=by rw [h7];decide
    have:i=0∨i=1:=by omega
    rcases this with rfl | rfl
    · exact part_7_0 n IH P p L B D d m t a1 l1 c1 a2 l2 c2 a3 l3 c3 h7 u fa fl fc v es vs w hp hPp hPn hLB hB hD hf hm hi hu hur hE hR hl
    · exact part_7_1 n IH P p L B D d m t a1 l1 c1 a2 l2 c2 a3 l3 c3 h7 u fa fl fc v es vs w hp hPp hPn hLB hB hD hf hm hi hu hur hE hR hl
  by_cases h17:t.K=17
  · have:shP t.K=2:=by rw [h17];decide
    have:i=0∨i=1:=by omega
    rcases this with rfl | rfl
    · exact part_17_0 n IH P p L B D d m t a1 l1 c1 a2 l2 c2 a3 l3 c3 h17 u fa fl fc v es vs w hp hPp hPn hLB hB hD hf hm hi hu hur hE hR hl
    · exact part_17_1 n IH P p L B D d m t a1 l1 c1 a2 l2 c2 a3 l3 c3 h17 u fa fl fc v es vs w hp hPp hPn hLB hB hD hf hm hi hu hur hE hR hl
  by_cases h14:t.K=14
  · have:shP t.K=3:=by rw [h14];decide
    have:i=0∨i=1∨i=2:=by omega
    rcases this with rfl | rfl | rfl
    · exact part_14_0 n IH P p L B D d m t a1 l1 c1 a2 l2 c2 a3 l3 c3 h14 u fa fl fc v es vs w hp hPp hPn hLB hB hD hf hm hi hu hur hE hR hl
    · exact part_14_1 n IH P p L B D d m t a1 l1 c1 a2 l2 c2 a3 l3 c3 h14 u fa fl fc v es vs w hp hPp hPn hLB hB hD hf hm hi hu hur hE hR hl
    · exact part_14_2 n IH P p L B D d m t a1 l1 c1 a2 l2 c2 a3 l3 c3 h14 u fa fl fc v es vs w hp hPp hPn hLB hB hD hf hm hi hu hur (hu6 h14 (by omega)) hE hR hl
  exact part_x n IH P p L B D d m t a1 l1 c1 a2 l2 c2 a3 l3 c3 h4 h6 h7 h17 h14 i u fa fl fc v es vs w hp hPp hPn hLB hB hD hf hm hi hu hur hE hR hl
end Go.Proofs.Ytleghjgpnefliaa
