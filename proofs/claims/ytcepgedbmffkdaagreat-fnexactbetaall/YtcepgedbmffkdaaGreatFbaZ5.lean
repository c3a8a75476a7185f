/-
  The uses of a name: rows of them; the library's 'slices.Contains' at a slice of names.
-/
import Derived.Test.YtcepgedbmffkdaaGreatFbaZ4
import Derived.Lib.SlicesS
import Derived.Test.YtcepgedbmffkdaaGreatFbaZ3
import Derived.Test.YtcepgedbmffkdaaGreatFbaZ2
namespace Go.Proofs.YtcepgedbmffkdaaGreat
open Go.RowKit
set_option linter.unusedVariables false
set_option linter.unusedSimpArgs false
theorem contains_nsl {w:World} {ao:Option Addr} {n:Nat} (c:Nat) {P:List (List UInt8)} (h:Nsl w ao n P) (hl:P.length≤1048576) (s:ByteArray) :
    Calls Tryz.prog 102 #[.slice ao n c,.string s] w fun e w'=>e=.returned (.bool (decide (bs s ∈ P)))∧w'=w:=by
  obtain ⟨hn,hc⟩:=h
  subst hn
  by_cases h0:P.length=0
  · have hP:P=[]:=List.length_eq_zero_iff.1 h0
    subst hP
    exact (Tryz.slices_Contains_string_empty ao c s w).mono fun e w' ⟨h1,h2⟩=>⟨by rw [h1];simp,h2⟩
  · obtain ⟨g,rfl,_,_⟩:=hc 0 (by omega)
    refine (Tryz.slices_Contains_string g 0 P.length c (P.map fun l=>(⟨l.toArray⟩:ByteArray)) s w (by simp) (by omega) ?_).mono fun e w' ⟨h1,h2⟩=>⟨?_,h2⟩
    · intro j hj
      have hj':j < P.length:=by simpa using hj
      obtain ⟨b,e,_,hcc⟩:=hc j hj'
      cases e
      rw [hcc]
      simp [tk,hj']
    · rw [h1]
      congr 2
      rw [List.take_of_length_le (by simp),Bool.eq_iff_iff,Lib.containsS_iff,decide_eq_true_eq,List.mem_map]
      constructor
      · rintro ⟨l,hl,e⟩
        have:bs s=l:=by rw [← e];simp [bs]
        rw [this];exact hl
      · intro hm
        exact ⟨bs s,hm,mk_bs s⟩
theorem binds_nmI (k:Int) (s z:List UInt8) (i:Nat):nmI k s z (i:Int)=bindsW k s z i:=by
  unfold nmI bindsW
  have h1:((i:Int)=1) ↔ i=1:=by omega
  have h2:((i:Int)=2) ↔ i=2:=by omega
  simp only [h1,h2]
theorem bindsW_len (k:Int) (s z:List UInt8) (i:Nat):(bindsW k s z i).length≤2:=by
  unfold bindsW
  split
  · simp
  · split <;> simp
def sumU (f:Nat→Nat):Nat→Nat
  | 0=>0
  | n+1=>sumU f n+f n
def usesN (s:List UInt8):Nat→Tm→Nat
  | 0,_=>0
  | l+1,t=>if t.K=3∧bs t.S=s then 1 else sumU (fun i=>if h:i < t.A.length then (if s ∈ bindsW t.K (bs t.S) (bs t.Z) i then 0 else usesN s l t.A[i]) else 0) t.A.length
def partU (s:List UInt8) (l:Nat) (t:Tm) (i:Nat):Nat:=if h:i < t.A.length then (if s ∈ bindsW t.K (bs t.S) (bs t.Z) i then 0 else usesN s l t.A[i]) else 0
theorem usesN_var {s:List UInt8} {l:Nat} {t:Tm} (h:t.K=3∧bs t.S=s):usesN s (l+1) t=1:=by unfold usesN;rw [if_pos h]
theorem usesN_not {s:List UInt8} {l:Nat} {t:Tm} (h:¬ (t.K=3∧bs t.S=s)):usesN s (l+1) t=sumU (partU s l t) t.A.length:=by unfold usesN;rw [if_neg h];rfl
theorem partU_in {s:List UInt8} {l:Nat} {t:Tm} {i:Nat} (hi:i < t.A.length) (h:s ∈ bindsW t.K (bs t.S) (bs t.Z) i):partU s l t i=0:=by unfold partU;rw [dif_pos hi,if_pos h]
theorem partU_out {s:List UInt8} {l:Nat} {t:Tm} {i:Nat} (hi:i < t.A.length) (h:¬ s ∈ bindsW t.K (bs t.S) (bs t.Z) i):partU s l t i=usesN s l t.A[i]:=by unfold partU;rw [dif_pos hi,if_neg h]
theorem sumU_nodes {s:List UInt8} {l:Nat} {t:Tm} (IH:∀ (x:Tm) (m:Nat),nodesM l x=some m→usesN s l x≤m):∀ (n:Nat),n≤t.A.length→∀ b,nodesG (nodesM l) (t.A.take n)=some b→sumU (partU s l t) n≤b:=by
  intro n
  induction n with
  | zero=>intro _ b _;exact Nat.zero_le _
  | succ n ih =>
    intro hn b hb
    have hn':n < t.A.length:=by omega
    cases h0:nodesG (nodesM l) (t.A.take n) with
    | none =>
      exfalso
      rw [List.take_succ_eq_append_getElem hn',nodesG_append,h0] at hb
      simp at hb
    | some b0 =>
      rw [nodesG_take _ _ _ hn' b0 h0] at hb
      cases hx:nodesM l t.A[n] with
      | none=>rw [hx] at hb;simp at hb
      | some x =>
        rw [hx] at hb
        simp at hb
        have h1:=ih (by omega) b0 h0
        have h2:=IH _ x hx
        show sumU (partU s l t) n+partU s l t n≤b
        by_cases hm:s ∈ bindsW t.K (bs t.S) (bs t.Z) n
        · rw [partU_in hn' hm];omega
        · rw [partU_out hn' hm];omega
theorem usesN_nodes (s:List UInt8):∀ (l:Nat) (t:Tm) (m:Nat),nodesM l t=some m→usesN s l t≤m:=by
  intro l
  induction l with
  | zero=>intro t m h;simp [nodesM] at h
  | succ l ih =>
    intro t m h
    rw [nodesM] at h
    split at h
    · obtain ⟨b,hb,hm⟩:=Option.map_eq_some_iff.1 h
      by_cases hv:t.K=3∧bs t.S=s
      · rw [usesN_var hv];omega
      · rw [usesN_not hv]
        have:=sumU_nodes ih t.A.length (Nat.le_refl _) b (by rw [List.take_of_length_le (Nat.le_refl _)];exact hb)
        omega
    · simp at h
theorem sumU_le (f:Nat→Nat) (n k:Nat):sumU f n≤sumU f (n+k):=by
  induction k with
  | zero=>exact Nat.le_refl _
  | succ k ih=>exact Nat.le_trans ih (Nat.le_add_right _ _)
abbrev Use:=Addr × Option Addr × Nat × Nat
def useV (u:Use):List Value:=[.pointer (some u.1),.slice u.2.1 u.2.2.1 u.2.2.2]
theorem Tryz.infoUse:(Tryz.prog.info? 173).map (fun i=>(i.zero,i.size,i.bytes))=some (some (.agg #[.pointer none,.slice none 0 0]),2,32):=by kernel_rfl
def Uss (base:Nat) (w:World) (v:Value) (us:List Use):Prop:=w.ownsRow base 173 2 v us.length (us.flatMap useV)
theorem flat_len (us:List Use):(us.flatMap useV).length=us.length * 2:=by
  induction us with
  | nil=>rfl
  | cons u us ih=>simp [List.flatMap_cons,ih,useV];omega
theorem uss_own {base:Nat} {w:World} {v:Value} {us:List Use} (h:Uss base w v us) {g:Nat} (hg:v.ownBlock=some g):base≤g∧g < w.heap.size:=by
  rcases h.2 with ⟨rfl,_⟩ | ⟨g',cap,cur,rfl,hb,hh,_⟩
  · cases hg
  · have e:g'=g:=by simpa [Value.ownBlock] using hg
    subst e
    exact ⟨hb,(Array.getElem?_eq_some_iff.1 hh).1⟩
theorem uss_nil (base:Nat) (w:World):Uss base w (.slice none 0 0) []:=⟨rfl,Or.inl ⟨rfl,rfl⟩⟩
theorem uss_form {base:Nat} {w:World} {v:Value} {us:List Use} (h:Uss base w v us):∃ ao cap,v=.slice ao us.length cap:=by
  rcases h.2 with ⟨rfl,hn⟩ | ⟨g,cap,cur,rfl,_⟩
  · exact ⟨none,0,by rw [hn]⟩
  · exact ⟨_,cap,rfl⟩
theorem uss_keep {base:Nat} {w w':World} {v:Value} {us:List Use} (h:Uss base w v us) (hk:∀ g,v.ownBlock=some g→w'.heap[g]?=w.heap[g]?):Uss base w' v us:=by
  refine ⟨h.1,?_⟩
  rcases h.2 with h' | ⟨g,cap,cur,rfl,hb,hh,r⟩
  · exact Or.inl h'
  · exact Or.inr ⟨g,cap,cur,rfl,hb,(hk g rfl).trans hh,r⟩
theorem uss_below {base:Nat} {w w':World} {v:Value} {us:List Use} (h:Uss base w v us) (hb:Below w.heap.size w w'):Uss base w' v us :=
  uss_keep h fun g hg=>hb.block g (uss_own h hg).2
theorem uss_one {base:Nat} {w:World} {g:Nat} {u:Use} (h:w.heap[g]?=some (.cells #[.pointer (some u.1),.slice u.2.1 u.2.2.1 u.2.2.2] 173 (0,0))) (hb:base≤g):Uss base w (.slice (some ⟨g,0,none⟩) 1 1) [u] :=
  ⟨by simp [useV],Or.inr ⟨g,1,_,rfl,hb,h,by simp,by unfold maxLen;omega,by simp,by simp [useV]⟩⟩
theorem uss_app {base base':Nat} {w:World} {v v2:Value} {us us2:List Use} (h:Uss base w v us) (hb:base≤w.heap.size) (h2:Uss base' w v2 us2) (hl:us.length+us2.length≤1048577) :
    ∃ ao cap w2,(Builtin.append_ #[100,100] 100 #[v,v2]).run Tryz.prog w=.ok (.slice ao (us.length+us2.length) cap) w2∧Uss base w2 (.slice ao (us.length+us2.length) cap) (us ++ us2)∧w.grownBy w2 v.ownBlock:=by
  obtain ⟨i0,hi,hz0,hz1,hz2⟩:=info_parts Tryz.infoUse
  by_cases hn:us2=[]
  · subst hn
    have hv:∃ a2 cap,v=.slice a2 us.length cap∧us.length≤cap:=by
      rcases h.2 with ⟨rfl,hn⟩ | ⟨g,cap,cur,rfl,hg,hh,h1,h2,h3,h4⟩
      · exact ⟨none,0,by rw [hn],by omega⟩
      · exact ⟨_,cap,rfl,h1⟩
    obtain ⟨a2,cap,rfl,hcap⟩:=hv
    obtain ⟨ao,c,rfl⟩:=uss_form h2
    refine ⟨a2,cap,w,?_,by rw [List.append_nil];exact h,⟨rfl,rfl,rfl,Nat.le_refl _,fun _ _ _=>rfl⟩⟩
    show (Builtin.append_ #[100,100] 100 #[.slice a2 us.length cap,.slice ao 0 c]).run Tryz.prog w=.ok (.slice a2 us.length cap) w
    refine run_append_nothing (P:=Tryz.prog) w 100 100 100 173 i0 Tryz.underlying100 hi a2 us.length cap hcap _ ?_
    cases ao with
    | none=>exact Src.ofNil _ Tryz.underlying100 c
    | some a=>exact Src.ofSlice _ Tryz.underlying100 a 0 c [] (by simp) (by simp) (by simp)
  · have hn0:0 < us2.length:=List.length_pos_iff.2 hn
    rcases h2.2 with ⟨rfl,hz⟩ | ⟨g2,cap2,cur,rfl,hg2,hh2,k1,k2,k3,k4⟩
    · omega
    have hfl:=flat_len us2
    obtain ⟨g,cap,w2,hrun,hown2,hgrow,hat,hlt⟩:=run_append_lies (P:=Tryz.prog) w 100 100 base 173 i0 _ 2 32 Tryz.underlying100 hi hz0 hz1 hz2 rfl (by omega) v us.length _ h
      ⟨g2,0,none⟩ us2.length cap2 (us2.flatMap useV) (by rw [hfl]) (fun j u hu=>by
        have ea:(⟨g2,0,none⟩:Addr).add j=⟨g2,0+j,none⟩:=(by unfold Addr.add;split <;> simp_all)
        rw [ea,Nat.zero_add,row_cell hh2]
        have hj:j < (us2.flatMap useV).length:=by
          rcases Nat.lt_or_ge j (us2.flatMap useV).length with h | h
          · exact h
          · rw [List.getElem?_eq_none h] at hu;simp at hu
        rw [← k4,List.getElem?_take,if_pos (by rw [hfl] at hj;omega)] at hu
        rw [← Array.getElem?_toList]
        exact hu) (by
        intro u hu
        obtain ⟨x,_,hx⟩:=List.mem_flatMap.1 hu
        simp only [useV,List.mem_cons,List.not_mem_nil,or_false] at hx
        rcases hx with rfl | rfl <;> rfl)
      hn0 (by unfold maxLen;omega) (by omega) hb _ rfl
    refine ⟨_,cap,w2,hrun,?_,hgrow⟩
    unfold Uss
    rw [List.length_append,List.flatMap_append]
    exact hown2
end Go.Proofs.YtcepgedbmffkdaaGreat

/-
  What 'toTerm', 'toTermS' (a copy in the program's own type) come to: the same tree in new memory.
-/
namespace Go.Proofs.YtcepgedbmffkdaaGreat
open Go.RowKit
set_option linter.unusedVariables false
set_option linter.unusedSimpArgs false
theorem Tryz.infoTerm:(Tryz.prog.info? 34).map (fun i=>(i.zero,i.size,i.bytes))=some (some (.agg #[.int .i64 0,.int .i64 0,.string ⟨#[]⟩,.string ⟨#[]⟩,.int .i64 0,.int .i64 0,.slice none 0 0,.slice none 0 0,.slice none 0 0]),9,136):=by kernel_rfl
end Go.Proofs.YtcepgedbmffkdaaGreat

/-
  Rows of terms that can be appended to; the terms in them share their memory with others. No walk.
-/
namespace Go.Proofs.YtcepgedbmffkdaaGreat
open Go.RowKit
set_option linter.unusedVariables false
set_option linter.unusedSimpArgs false
def c9 (t:Tm) (a1:Option Addr) (l1 c1:Nat) (a2:Option Addr) (l2 c2:Nat) (a3:Option Addr) (l3 c3:Nat):List Value:=[.int .i64 t.K,.int .i64 t.N,.string t.S,.string t.Z,.int .i64 t.T.K,.int .i64 t.T.N,.slice a1 l1 c1,.slice a2 l2 c2,.slice a3 l3 c3]
def z9:List Value:=[.int .i64 0,.int .i64 0,.string ⟨#[]⟩,.string ⟨#[]⟩,.int .i64 0,.int .i64 0,.slice none 0 0,.slice none 0 0,.slice none 0 0]
theorem owns_keep {base e size:Nat} {w w':World} {v:Value} {n:Nat} {xs:List Value} (h:w.ownsRow base e size v n xs) (hk:∀ g,v.ownBlock=some g→w'.heap[g]?=w.heap[g]?):w'.ownsRow base e size v n xs:=by
  refine ⟨h.1,?_⟩
  rcases h.2 with hn | ⟨g,cap,cur,rfl,hg,hh,r⟩
  · exact Or.inl hn
  · exact Or.inr ⟨g,cap,cur,rfl,hg,(hk g rfl).trans hh,r⟩
theorem one9 (t:Tm) (a1:Option Addr) (l1 c1:Nat) (a2:Option Addr) (l2 c2:Nat) (a3:Option Addr) (l3 c3:Nat):∀ u ∈ c9 t a1 l1 c1 a2 l2 c2 a3 l3 c3,u.oneCell'=true:=by
  simp [c9,Value.oneCell']
end Go.Proofs.YtcepgedbmffkdaaGreat

/-
  Rows of terms that are appended to, each term in memory of its own. No walk.
-/
namespace Go.Proofs.YtcepgedbmffkdaaGreat
open Go.RowKit
set_option linter.unusedVariables false
set_option linter.unusedSimpArgs false
def ApRelM (base:Nat) (wr:World) (D d:Nat) (v:Value) (k:Nat) (ts:List Tm):Prop :=
  ∃ xs,wr.ownsRow base 34 9 v k xs∧∃ bss:List (List Nat),bss.length=k∧bss.flatten.Nodup∧(∀ b ∈ bss.flatten,base≤b∧b < wr.heap.size∧v.ownBlock≠some b) ∧
    ∀ i (_:i < bss.length) (_:i < ts.length),∃ a1 l1 c1 a2 l2 c2 a3 l3 c3,(∀ j,j < 9→xs[i * 9+j]?=(c9 ts[i] a1 l1 c1 a2 l2 c2 a3 l3 c3)[j]?)∧FldO wr D (OwM wr D d) ts[i] a1 l1 a2 l2 a3 l3 bss[i]
theorem apm_nil (base:Nat) (w:World) (D d:Nat) (ts:List Tm):ApRelM base w D d (.slice none 0 0) 0 ts :=
  ⟨[],World.ownsRow_nil _ _ _ _,[],rfl,by simp,by simp,fun i hi=>by simp at hi⟩
theorem apm_emp {base:Nat} {w:World} {D d b:Nat} (ts:List Tm) (h:w.heap[b]?=some (.cells #[] 34 (0,0))) (hb:base≤b):ApRelM base w D d (.slice (some ⟨b,0,none⟩) 0 0) 0 ts :=
  ⟨[],⟨by simp,Or.inr ⟨b,0,#[],by simp,hb,h,by simp,by simp,by simp,by simp⟩⟩,[],rfl,by simp,by simp,fun i hi=>by simp at hi⟩
theorem owns_block {base e size:Nat} {w:World} {v:Value} {n:Nat} {xs:List Value} (h:w.ownsRow base e size v n xs) {g:Nat} (hg:v.ownBlock=some g):base≤g∧g < w.heap.size:=by
  rcases h.2 with ⟨rfl,_⟩ | ⟨g',cap,cur,rfl,hb,hh,_⟩
  · cases hg
  · have e:g'=g:=by simpa [Value.ownBlock] using hg
    subst e
    exact ⟨hb,(Array.getElem?_eq_some_iff.1 hh).1⟩
theorem apm_block {base:Nat} {wr:World} {D d:Nat} {v:Value} {k:Nat} {ts:List Tm} (h:ApRelM base wr D d v k ts) {g:Nat} (hg:v.ownBlock=some g):base≤g∧g < wr.heap.size:=by
  obtain ⟨xs,hown,_⟩:=h
  exact owns_block hown hg
theorem apm_keep {base:Nat} {wr w1:World} {D d:Nat} {v:Value} {k:Nat} {ts:List Tm} (h:ApRelM base wr D d v k ts) (hb:∀ b,base≤b→b < wr.heap.size→w1.heap[b]?=wr.heap[b]?) (hz:wr.heap.size≤w1.heap.size):ApRelM base w1 D d v k ts:=by
  have hbk:=fun g hg=>apm_block h (g:=g) hg
  obtain ⟨xs,hown,bss,hbl,hnd,hrng,hE⟩:=h
  refine ⟨xs,owns_keep hown (fun g hg=>hb g (hbk g hg).1 (hbk g hg).2),bss,hbl,hnd,fun b hb'=>⟨(hrng b hb').1,Nat.lt_of_lt_of_le (hrng b hb').2.1 hz,(hrng b hb').2.2⟩,fun i hi hi'=>?_⟩
  obtain ⟨a1,l1,c1,a2,l2,c2,a3,l3,c3,h1,h2⟩:=hE i hi hi'
  exact ⟨a1,l1,c1,a2,l2,c2,a3,l3,c3,h1,h2.keep fun b hb'=>hb b (hrng b (mem_part hi hb')).1 (hrng b (mem_part hi hb')).2.1⟩
theorem apm_below {base:Nat} {wr w1:World} {D d:Nat} {v:Value} {k:Nat} {ts:List Tm} (h:ApRelM base wr D d v k ts) (hb:Below wr.heap.size wr w1):ApRelM base w1 D d v k ts :=
  apm_keep h (fun b _ hb'=>hb.block b hb') hb.size
theorem apm_set {base:Nat} {wr:World} {D d:Nat} {v:Value} {k:Nat} {ts:List Tm} (h:ApRelM base wr D d v k ts) {o j:Nat} (ho:o < base) (u:Value):ApRelM base (wr.setCell ⟨o,j,none⟩ u) D d v k ts :=
  apm_keep h (fun b hb _=>row_other _ _ _ (by omega)) (by simp)
theorem apm_run {base:Nat} {wr w1:World} {D d:Nat} {v:Value} {k:Nat} {ts:List Tm} (h:ApRelM base wr D d v k ts) (hk:k < ts.length) (hk2:k≤1048576) (hb:Below wr.heap.size wr w1) (hbase:base≤wr.heap.size) {a1:Option Addr} {l1 c1:Nat} {a2:Option Addr} {l2 c2:Nat} {a3:Option Addr} {l3 c3:Nat}
    (ho:FmO wr.heap.size w1.heap.size w1 D d ts[k] a1 l1 a2 l2 a3 l3) :
    ∃ g cap w2,(Builtin.append_ #[32,32] 32 #[v,.slice (some ⟨w1.heap.size,0,none⟩) 1 1]).run Tryz.prog (w1.alloc (.cells #[.int .i64 ts[k].K,.int .i64 ts[k].N,.string ts[k].S,.string ts[k].Z,.int .i64 ts[k].T.K,.int .i64 ts[k].T.N,.slice a1 l1 c1,.slice a2 l2 c2,.slice a3 l3 c3] 34))=.ok (.slice (some ⟨g,0,none⟩) (k+1) cap) w2 ∧
      ApRelM base w2 D d (.slice (some ⟨g,0,none⟩) (k+1) cap) (k+1) ts∧Below base wr w2:=by
  obtain ⟨i0,hi,hz0,hz1,hz2⟩:=info_parts Tryz.infoTerm
  obtain ⟨X,hXe⟩:∃ X,X=w1.alloc (.cells #[.int .i64 ts[k].K,.int .i64 ts[k].N,.string ts[k].S,.string ts[k].Z,.int .i64 ts[k].T.K,.int .i64 ts[k].T.N,.slice a1 l1 c1,.slice a2 l2 c2,.slice a3 l3 c3] 34):=⟨_,rfl⟩
  have hX1:Below w1.heap.size w1 X:=by rw [hXe];exact (Below.refl _ _).alloc (Nat.le_refl _) _
  have hX:Below wr.heap.size wr X:=hb.trans (hX1.mono hb.size)
  have hXs:X.heap.size=w1.heap.size+1:=by rw [hXe];simp
  have hbk:=fun g hg=>apm_block h (g:=g) hg
  obtain ⟨xs,hown,bss,hbl,hnd,hrng,hE⟩:=h
  have hownX:=owns_keep hown (fun g hg=>hX.block g (hbk g hg).2)
  have hsz:=hb.size
  obtain ⟨g,cap,w2,hrun,hown2,hgrow,hat,hlt⟩:=run_append_lies (P:=Tryz.prog) X 32 32 base 34 i0 _ 9 136 Tryz.underlying32 hi hz0 hz1 hz2 rfl (by omega) v k xs hownX
    ⟨w1.heap.size,0,none⟩ 1 1 (c9 ts[k] a1 l1 c1 a2 l2 c2 a3 l3 c3) rfl (by rw [hXe];exact World.news_of_block (cs:=#[.int .i64 ts[k].K,.int .i64 ts[k].N,.string ts[k].S,.string ts[k].Z,.int .i64 ts[k].T.K,.int .i64 ts[k].T.N,.slice a1 l1 c1,.slice a2 l2 c2,.slice a3 l3 c3]) (t:=34) (fr:=(0,0)) (heap_alloc_new w1 _)) (one9 _ _ _ _ _ _ _ _ _ _)
    (by omega) (by unfold maxLen;omega) (by omega) (by omega) _ rfl
  have hgz:=hgrow.size
  have hlx:xs.length=k * 9:=hown.1
  obtain ⟨bs,hO,hnd2,hrng2⟩:=ho
  have keepOld:∀ b,b < X.heap.size→v.ownBlock≠some b→w2.heap[b]?=X.heap[b]?:=fun b hb' hne=>hgrow.block b hb' (fun e=>hne e.symm)
  have hnew:∀ b ∈ bs,v.ownBlock≠some b:=fun b hb' e=>by have h1:=(hbk b e).2;have h2:=(hrng2 b hb').1;omega
  rw [← hXe]
  refine ⟨g,cap,w2,hrun,⟨_,hown2,bss ++ [bs],by simp [hbl],nodup_snoc hnd hnd2 (fun b hb'=>(hrng b hb').2.1) (fun b hb'=>(hrng2 b hb').1),?_,?_⟩,?_⟩
  · intro b hb'
    rw [List.flatten_append,List.mem_append] at hb'
    rcases hb' with hb' | hb'
    · obtain ⟨h1,h2,h3⟩:=hrng b hb'
      refine ⟨h1,by omega,fun e=>?_⟩
      have e':g=b:=by simpa [Value.ownBlock] using e
      subst e'
      rcases hat with hat | hat
      · exact h3 hat
      · omega
    · have hb2:=hrng2 b (by simpa using hb')
      refine ⟨by omega,by omega,fun e=>?_⟩
      have e':g=b:=by simpa [Value.ownBlock] using e
      subst e'
      rcases hat with hat | hat
      · have:=(hbk g hat).2;omega
      · omega
  · intro i hi hi'
    by_cases hik:i=k
    · subst hik
      refine ⟨a1,l1,c1,a2,l2,c2,a3,l3,c3,fun j hj=>?_,?_⟩
      · rw [List.getElem?_append_right (by omega),hlx,Nat.add_sub_cancel_left]
      · have e:(bss ++ [bs])[i]=bs:=by simp [List.getElem_append_right,hbl]
        rw [e]
        exact hO.keep fun b hb'=>(keepOld b (by have:=(hrng2 b hb').2;omega) (hnew b hb')).trans (hX1.block b (hrng2 b hb').2)
    · have hik':i < bss.length:=by simp at hi;omega
      obtain ⟨b1,m1,d1,b2,m2,d2,b3,m3,d3,h1,h2⟩:=hE i hik' hi'
      refine ⟨b1,m1,d1,b2,m2,d2,b3,m3,d3,fun j hj=>?_,?_⟩
      · rw [List.getElem?_append_left (by omega)];exact h1 j hj
      · have e:(bss ++ [bs])[i]=bss[i]:=by simp [List.getElem_append_left,hik']
        rw [e]
        refine h2.keep fun b hb'=>?_
        obtain ⟨h3,h4,h5⟩:=hrng b (mem_part hik' hb')
        exact (keepOld b (by omega) h5).trans (hX.block b h4)
  · refine ⟨hgrow.os.trans hX.os,hgrow.tape.trans hX.tape,hgrow.output.trans hX.output,by omega,fun b hb'=>(keepOld b (by omega) (fun e=>by have:=(hbk b e).1;omega)).trans (hX.block b (by omega))⟩
theorem apm_done {base:Nat} {wr:World} {D d:Nat} {v:Value} {k:Nat} {ts:List Tm} (h:ApRelM base wr D d v k ts) (hk:k=ts.length) (hm:k≤9223372036854775807):∃ ao cap,v=.slice ao k cap∧OwMR base wr.heap.size wr D (d+1) ao k ts:=by
  have hbk:=fun g hg=>apm_block h (g:=g) hg
  obtain ⟨xs,hown,bss,hbl,hnd,hrng,hE⟩:=h
  rcases hown.2 with ⟨rfl,rfl⟩ | ⟨g,cap,cur,rfl,hg,hh,hc1,hc2,hc3,ht⟩
  · have:ts=[]:=List.length_eq_zero_iff.1 hk.symm
    subst this
    exact ⟨none,0,rfl,OwMR.nil _ _ _ _ _ _⟩
  · refine ⟨_,cap,rfl,?_⟩
    by_cases hk0:k=0
    · subst hk0
      have:ts=[]:=List.length_eq_zero_iff.1 hk.symm
      subst this
      exact OwMR.nil _ _ _ _ _ _
    refine ⟨g :: bss.flatten,Or.inr ⟨g,cur,bss,rfl,hk,hm,hh,?_,by omega,rfl,fun i hi hi'=>?_⟩,?_,?_⟩
    · rw [hc3];exact Nat.mul_le_mul_right _ hc1
    · obtain ⟨a1,l1,c1,a2,l2,c2,a3,l3,c3,h1,h2⟩:=hE i hi' hi
      have look:∀ j,j < 9→wr.cell? ⟨g,i * 9+j,none⟩=(c9 ts[i] a1 l1 c1 a2 l2 c2 a3 l3 c3)[j]?:=fun j hj=>by
        rw [← h1 j hj,row_cell hh,← ht,List.getElem?_take,if_pos (by omega)]
        simp
      exact ⟨a1,l1,c1,a2,l2,c2,a3,l3,c3,⟨look 0 (by omega),look 1 (by omega),look 2 (by omega),look 3 (by omega),look 4 (by omega),look 5 (by omega),look 6 (by omega),look 7 (by omega),look 8 (by omega)⟩,h2⟩
    · rw [List.nodup_cons]
      exact ⟨fun hmem=>(hrng _ hmem).2.2 rfl,hnd⟩
    · intro b hb
      rw [List.mem_cons] at hb
      rcases hb with rfl | hb
      · exact hbk b rfl
      · exact ⟨(hrng b hb).1,(hrng b hb).2.1⟩
end Go.Proofs.YtcepgedbmffkdaaGreat
