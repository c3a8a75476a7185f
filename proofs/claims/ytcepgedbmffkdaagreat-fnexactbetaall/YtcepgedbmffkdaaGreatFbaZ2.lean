/-
  Free names: what 'meet' and 'gatherBound' come to; the two rows of names that lie in memory.
-/
import Derived.Test.YtcepgedbmffkdaaGreatFbaZ1
import Derived.Deep.RegionWith
import Derived.Deep.QuietTactic
import Derived.BigQuiet
namespace Go.Proofs.YtcepgedbmffkdaaGreat
open Go.RowKit
set_option linter.unusedVariables false
set_option linter.unusedSimpArgs false
def bs (s:ByteArray):List UInt8:=s.data.toList
theorem tk_bs (s:ByteArray):tk (bs s)=.string s:=by cases s;simp [tk,bs]
theorem mk_bs (s:ByteArray):(⟨(bs s).toArray⟩:ByteArray)=s:=by cases s;simp [bs]
def meetW (Bd Fr:List (List UInt8)) (x:List UInt8):List (List UInt8):=if x ∈ Bd∨x ∈ Fr then Fr else Fr ++ [x]
theorem two_cells {w:World} {b:Nat} {a0 a1:Value} {t:TypeId} {fr:Nat × Nat} (h:w.heap[b]?=some (.cells #[a0,a1] t fr)):w.cell? ⟨b,0,none⟩=some a0∧w.cell? ⟨b,1,none⟩=some a1:=⟨row_cell h 0,row_cell h 1⟩
theorem toks_own {base:Nat} {w:World} {v:Value} {P:List (List UInt8)} (h:Toks base w v P) {g:Nat} (hg:v.ownBlock=some g):base≤g∧g < w.heap.size:=by
  rcases h.2 with ⟨rfl,_⟩ | ⟨g',cap,cur,rfl,hb',hh,_⟩
  · cases hg
  · have e:g'=g:=by simpa [Value.ownBlock] using hg
    subst e
    exact ⟨hb',(Array.getElem?_eq_some_iff.1 hh).1⟩
theorem toks_keep {base:Nat} {w w':World} {v:Value} {P:List (List UInt8)} (h:Toks base w v P) (hk:∀ g,v.ownBlock=some g→w'.heap[g]?=w.heap[g]?):Toks base w' v P:=by
  refine ⟨h.1,?_⟩
  rcases h.2 with hn | ⟨g,cap,cur,rfl,hg,hh,r⟩
  · exact Or.inl hn
  · exact Or.inr ⟨g,cap,cur,rfl,hg,(hk g rfl).trans hh,r⟩
theorem toks_form {base:Nat} {w:World} {v:Value} {P:List (List UInt8)} (h:Toks base w v P):∃ ao cap,v=.slice ao P.length cap:=by
  rcases h.2 with ⟨rfl,hn⟩ | ⟨g,cap,cur,rfl,_⟩
  · exact ⟨none,0,by rw [hn]⟩
  · exact ⟨_,cap,rfl⟩
theorem toks_grow {base:Nat} {wr:World} {v:Value} {P:List (List UInt8)} (h:Toks base wr v P) (hb:base≤wr.heap.size) (N:List (List UInt8)) (hN:0 < N.length) (hl:P.length+N.length≤1048577) (sb c:Nat)
    (hs:∀ j u,(N.map tk)[j]?=some u→wr.cell? ⟨sb,0+j,none⟩=some u) :
    ∃ g cap w2,(Builtin.append_ #[60,60] 60 #[v,.slice (some ⟨sb,0,none⟩) N.length c]).run Tryz.prog wr=.ok (.slice (some ⟨g,0,none⟩) (P.length+N.length) cap) w2 ∧
      Toks base w2 (.slice (some ⟨g,0,none⟩) (P.length+N.length) cap) (P ++ N)∧wr.grownBy w2 v.ownBlock∧(v.ownBlock=some g∨g=wr.heap.size)∧g < w2.heap.size:=by
  obtain ⟨i0,hi,hz0,hz1,hz2⟩:=info_parts Tryz.infoStr
  obtain ⟨g,cap,w2,hrun,hown2,hgrow,hat,hlt⟩:=run_append_lies (P:=Tryz.prog) wr 60 60 base 9 i0 _ 1 16 Tryz.underlying60 hi hz0 hz1 hz2 rfl (by omega) v P.length _ h
    ⟨sb,0,none⟩ N.length c (N.map tk) (by simp) (fun j u hu=>by have e:=hs j u hu;have ea:(⟨sb,0,none⟩:Addr).add j=⟨sb,0+j,none⟩:=(by unfold Addr.add;split <;> simp_all);rw [ea];exact e) (by intro u hu;obtain ⟨l,_,rfl⟩:=List.mem_map.1 hu;rfl)
    hN (by unfold maxLen;omega) (by omega) hb _ rfl
  refine ⟨g,cap,w2,hrun,?_,hgrow,hat,hlt⟩
  unfold Toks
  rw [List.length_append,List.map_append]
  exact hown2
theorem toks_cut {base:Nat} {w:World} {ao:Option Addr} {n cap:Nat} {P N:List (List UInt8)} (h:Toks base w (.slice ao n cap) (P ++ N)):Toks base w (.slice ao P.length cap) P∨(ao=none∧P=[]):=by
  rcases h.2 with ⟨e,hn⟩ | ⟨g,cap',cur,e,hg,hh,h1,h2,h3,h4⟩
  · right
    cases e
    rw [List.length_append] at hn
    exact ⟨rfl,List.length_eq_zero_iff.1 (by omega)⟩
  · left
    injection e with e1 e2 e3
    subst e1
    subst e3
    refine ⟨by simp,Or.inr ⟨g,_,cur,rfl,hg,hh,?_,h2,h3,?_⟩⟩
    · rw [List.length_append] at h1;omega
    · have:=congrArg (List.take (P.length * 1)) h4
      rw [List.take_take,List.map_append] at this
      rw [List.length_append] at this
      rw [Nat.min_eq_left (by omega)] at this
      rw [this,List.take_append_of_le_length (by simp),List.take_of_length_le (by simp)]
theorem toks_le {base base':Nat} {w:World} {v:Value} {P:List (List UInt8)} (h:Toks base w v P) (hb:base'≤base):Toks base' w v P :=
  ⟨h.1,h.2.elim Or.inl (fun ⟨g,cap,cur,hv,hg,r⟩=>Or.inr ⟨g,cap,cur,hv,Nat.le_trans hb hg,r⟩)⟩
end Go.Proofs.YtcepgedbmffkdaaGreat

/-
  Free names in the model: 'l2Has', 'l2Binds'.
-/
namespace Go.Proofs.YtcepgedbmffkdaaGreat
open Go.RowKit
set_option linter.unusedVariables false
set_option linter.unusedSimpArgs false
theorem toks_at {base:Nat} {w:World} {v:Value} {P:List (List UInt8)} (h:Toks base w v P) (j:Nat) (hj:j < P.length):∃ g cap,v=.slice (some ⟨g,0,none⟩) P.length cap∧base≤g∧g < w.heap.size∧w.cell? ⟨g,0+j,none⟩=some (tk P[j]):=by
  rcases h.2 with ⟨rfl,hn⟩ | ⟨g,cap,cur,rfl,hg,hh,h1,h2,h3,h4⟩
  · omega
  · refine ⟨g,cap,rfl,hg,(Array.getElem?_eq_some_iff.1 hh).1,?_⟩
    have e:(List.map tk P)[j]?=some (tk P[j]):=by simp [hj]
    rw [← h4,List.getElem?_take,if_pos (by omega)] at e
    rw [Nat.zero_add,row_cell hh,← Array.getElem?_toList,e]
theorem toks_bel {base:Nat} {w w':World} {v:Value} {P:List (List UInt8)} (h:Toks base w v P) (hb:Below w.heap.size w w'):Toks base w' v P:=toks_keep h fun g hg=>hb.block g (toks_own h hg).2
structure Ko (vo:Value) (w:World) (vo':Value) (w':World):Prop where
  os:w'.os=w.os
  tape:w'.tape=w.tape
  output:w'.output=w.output
  size:w.heap.size≤w'.heap.size
  block:∀ k,k < w.heap.size→vo.ownBlock≠some k→w'.heap[k]?=w.heap[k]?
  own:∀ k,vo'.ownBlock=some k→(vo.ownBlock=some k∨w.heap.size≤k)
theorem Ko.trans {vo vo' vo'':Value} {w w' w'':World} (h:Ko vo w vo' w') (k:Ko vo' w' vo'' w''):Ko vo w vo'' w'':=by
  refine ⟨k.os.trans h.os,k.tape.trans h.tape,k.output.trans h.output,Nat.le_trans h.size k.size,fun i hi h1=>?_,fun i hi=>?_⟩
  · exact (k.block i (Nat.lt_of_lt_of_le hi h.size) (fun e=>by rcases h.own i e with e | e;exact h1 e;omega)).trans (h.block i hi h1)
  · rcases k.own i hi with e | e
    · exact h.own i e
    · exact Or.inr (Nat.le_trans h.size e)
theorem Ko.of_below {vo:Value} {w w':World} (h:Below w.heap.size w w'):Ko vo w vo w' :=
  ⟨h.os,h.tape,h.output,h.size,fun k hk _=>h.block k hk,fun k hk=>Or.inl hk⟩
theorem Ko.below {base:Nat} {vo vo':Value} {w w':World} {Fr:List (List UInt8)} (h:Ko vo w vo' w') (ht:Toks base w vo Fr) (hb:base≤w.heap.size):Below base w w' :=
  ⟨h.os,h.tape,h.output,h.size,fun k hk=>h.block k (by omega) (fun e=>by have:=(toks_own ht e).1;omega)⟩
end Go.Proofs.YtcepgedbmffkdaaGreat

/-
  What the program's 'tyParts', 'tyNodeOk', 'tyNodesWithin', 'TyNodes', 'TyOk' come to.
-/
namespace Go.Proofs.YtcepgedbmffkdaaGreat
open Go.RowKit
set_option linter.unusedVariables false
set_option linter.unusedSimpArgs false
def parts (k:Int):Int:=if k=1∨k=2∨k=3 then 0 else if k=6 then 1 else if k=4∨k=5 then 2 else -1
theorem parts_bd (k:Int):-1≤parts k∧parts k≤2:=by unfold parts;(repeat' split) <;> omega
def nodeOk (k n:Int) (len:Nat):Bool:=decide ((len:Int)=parts k) && (if k=3 then decide (0≤n∧n < 2) else decide (n=0))
def nodesL (f:Tr→Option Nat):List Tr→Option Nat
  | []=>some 0
  | t :: ts=>match f t,nodesL f ts with
    | some a,some b=>some (a+b)
    | _,_=>none
def nodesW:Nat→Tr→Option Nat
  | 0,_=>none
  | l+1,t=>if nodeOk t.K t.N t.A.length then (nodesL (nodesW l) t.A).map (1+·) else none
theorem nodesL_append (f:Tr→Option Nat) (a b:List Tr):nodesL f (a ++ b)=match nodesL f a,nodesL f b with | some x,some y=>some (x+y) | _,_=>none:=by
  induction a with
  | nil=>simp only [List.nil_append,nodesL];cases nodesL f b <;> simp
  | cons t a ih =>
    simp only [List.cons_append,nodesL,ih]
    cases f t <;> cases nodesL f a <;> cases nodesL f b <;> simp [Nat.add_assoc]
theorem nodesL_take (f:Tr→Option Nat) (l:List Tr) (k:Nat) (h:k < l.length) (m:Nat) (hm:nodesL f (l.take k)=some m):nodesL f (l.take (k+1))=(f l[k]).map (m+·):=by
  rw [List.take_succ_eq_append_getElem h,nodesL_append,hm]
  simp only [nodesL]
  cases f l[k] <;> simp
theorem nodesL_none (f:Tr→Option Nat) (l:List Tr) (k:Nat) (h:k < l.length) (hf:f l[k]=none):nodesL f l=none:=by
  have e:l=l.take k ++ l[k] :: l.drop (k+1):=by simp
  rw [e,nodesL_append]
  simp only [nodesL,hf]
  cases nodesL f (l.take k) <;> rfl
theorem nodesL_le (f:Tr→Option Nat) (c:Nat) (hf:∀ t m,f t=some m→m≤c) (l:List Tr) (m:Nat) (h:nodesL f l=some m):m≤l.length * c:=by
  induction l generalizing m with
  | nil=>simp [nodesL] at h;omega
  | cons t l ih =>
    simp only [nodesL] at h
    cases h1:f t with
    | none=>simp [h1] at h
    | some a =>
      cases h2:nodesL f l with
      | none=>simp [h1,h2] at h
      | some b =>
        simp [h1,h2] at h
        have:=hf t a h1
        have:=ih b h2
        simp only [List.length_cons,Nat.add_mul,Nat.one_mul]
        omega
theorem nodeOk_len {k n:Int} {len:Nat} (h:nodeOk k n len=true):len≤2:=by
  simp only [nodeOk,Bool.and_eq_true,decide_eq_true_eq] at h
  have:=parts_bd k
  omega
theorem nodesW_lt:∀ (l:Nat) (t:Tr) (m:Nat),nodesW l t=some m→m+1≤2 ^ l:=by
  intro l
  induction l with
  | zero=>intro t m h;simp [nodesW] at h
  | succ l ih =>
    intro t m h
    simp only [nodesW] at h
    split at h
    · rename_i hok
      cases h1:nodesL (nodesW l) t.A with
      | none=>simp [h1] at h
      | some s =>
        simp [h1] at h
        have h2:=nodesL_le (nodesW l) (2 ^ l - 1) (fun t m hm=>by have:=ih t m hm;omega) t.A s h1
        have h3:=nodeOk_len hok
        have h4:t.A.length * (2 ^ l - 1)≤2 * (2 ^ l - 1):=Nat.mul_le_mul_right _ h3
        have h5:1≤2 ^ l:=Nat.one_le_two_pow
        rw [Nat.pow_succ]
        omega
    · simp at h
theorem nodesW_pos (l:Nat) (t:Tr) (m:Nat) (h:nodesW l t=some m):1≤m:=by
  cases l with
  | zero=>simp [nodesW] at h
  | succ l =>
    simp only [nodesW] at h
    split at h
    · cases h1:nodesL (nodesW l) t.A with
      | none=>simp [h1] at h
      | some s=>simp [h1] at h;omega
    · simp at h
set_option maxHeartbeats 400000 in
theorem tyParts_any (k:Int) (w:World):Calls Tryz.prog 140 #[.int .i64 k] w fun e w'=>e=.returned (.int .i64 (parts k))∧w'=w:=by
  by_cases h1:k=1
  · subst h1;go_enter Tryz.func140,Tryz.ntmps140;go_wp2;go_ret;exact ⟨rfl,rfl⟩
  by_cases h2:k=2
  · subst h2;go_enter Tryz.func140,Tryz.ntmps140;go_wp2;go_ret;exact ⟨rfl,rfl⟩
  by_cases h3:k=3
  · subst h3;go_enter Tryz.func140,Tryz.ntmps140;go_wp2;go_ret;exact ⟨rfl,rfl⟩
  by_cases h4:k=4
  · subst h4;go_enter Tryz.func140,Tryz.ntmps140;go_wp2;go_ret;exact ⟨rfl,rfl⟩
  by_cases h5:k=5
  · subst h5;go_enter Tryz.func140,Tryz.ntmps140;go_wp2;go_ret;exact ⟨rfl,rfl⟩
  by_cases h6:k=6
  · subst h6;go_enter Tryz.func140,Tryz.ntmps140;go_wp2;go_ret;exact ⟨rfl,rfl⟩
  have e:parts k=-1:=by unfold parts;rw [if_neg (by omega),if_neg (by omega),if_neg (by omega)]
  rw [e]
  have b1:(k == 1)=false:=beq_eq_false_iff_ne.2 h1
  have b2:(k == 2)=false:=beq_eq_false_iff_ne.2 h2
  have b3:(k == 3)=false:=beq_eq_false_iff_ne.2 h3
  have b4:(k == 4)=false:=beq_eq_false_iff_ne.2 h4
  have b5:(k == 5)=false:=beq_eq_false_iff_ne.2 h5
  have b6:(k == 6)=false:=beq_eq_false_iff_ne.2 h6
  clear e h1 h2 h3 h4 h5 h6
  go_enter Tryz.func140,Tryz.ntmps140;go_wp2;go_ret;exact ⟨rfl,rfl⟩
theorem nodeOk_no {k n:Int} {len:Nat} (h:¬ (len:Int)=parts k):nodeOk k n len=false:=by simp [nodeOk,h]
theorem nodeOk_var {n:Int} {k:Int} {len:Nat} (hk:k=3) (h:(len:Int)=parts k):nodeOk k n len=decide (0≤n∧n < 2):=by subst hk;simp [nodeOk,h]
theorem nodeOk_else {k n:Int} {len:Nat} (hk:¬ k=3) (h:(len:Int)=parts k):nodeOk k n len=(n == 0):=by
  simp only [nodeOk,h,hk,decide_true,Bool.true_and,if_false];rw [Bool.eq_iff_iff];simp
set_option maxHeartbeats 400000 in
theorem tyNodeOk_any (k n:Int) (ao:Option Addr) (len cap:Nat) (w:World) (hl:len≤9223372036854775807) :
    Calls Tryz.prog 139 #[.agg #[.int .i64 k,.int .i64 n,.slice ao len cap]] w fun e w'=>e=.returned (.bool (nodeOk k n len))∧Below w.heap.size w w':=by
  have hp:=parts_bd k
  have hbel:Below w.heap.size w (w.alloc (.cells #[.int .i64 k,.int .i64 n,.slice ao len cap] 31)):=(Below.refl _ _).alloc (Nat.le_refl _) _
  by_cases hlen:(len:Int)=parts k
  · have hb:((len:Int) != parts k)=false:=by simp [hlen]
    have HL:Hid ((len:Int)=parts k):=hlen
    clear hlen
    by_cases hk:k=3
    · have hk3:(k == 3)=true:=by simp [hk]
      have HK:Hid (k=3):=hk
      clear hk
      go_enter Tryz.func139,Tryz.ntmps139
      go_wp2_with fail
      go_quiet ((go_at_call 140;exact Calls.quiet_of_same (tyParts_any _ _)))
      go_wp2
      all_goals
        go_ret
        exact ⟨ret_bool (by rw [nodeOk_var HK.out HL.out,Bool.eq_iff_iff];simp;omega),below_drewN hbel _⟩
    · have hk3:(k == 3)=false:=by simp [hk]
      have HK:Hid (¬ k=3):=hk
      clear hk
      go_enter Tryz.func139,Tryz.ntmps139
      go_wp2_with fail
      go_quiet ((go_at_call 140;exact Calls.quiet_of_same (tyParts_any _ _)))
      go_wp2
      go_ret
      exact ⟨ret_bool (by rw [nodeOk_else HK.out HL.out]),below_drewN hbel _⟩
  · have hb:((len:Int) != parts k)=true:=by simp [hlen]
    have HL:Hid (¬ (len:Int)=parts k):=hlen
    clear hlen
    go_enter Tryz.func139,Tryz.ntmps139
    go_wp2_with fail
    go_quiet ((go_at_call 140;exact Calls.quiet_of_same (tyParts_any _ _)))
    go_wp2
    go_ret
    exact ⟨ret_bool (by rw [nodeOk_no HL.out]),below_drewN hbel _⟩
def SaidNW (l:Nat):Prop:=∀ (d L B:Nat) (k n:Int) (ao:Option Addr) (len cap:Nat) (ts:List Tr) (w:World),B≤w.heap.size→Hs L B w d ao len ts →
    Calls Tryz.prog 137 #[.agg #[.int .i64 k,.int .i64 n,.slice ao len cap],.int .i64 l] w fun e w' =>
      e=.returned (.tuple #[.int .i64 ((nodesW l ⟨k,n,ts⟩).getD 0),.bool (nodesW l ⟨k,n,ts⟩).isSome])∧Below w.heap.size w w'
set_option maxHeartbeats 400000 in
theorem nw_zero:SaidNW 0:=by
  intro d L B k n ao len cap ts w hB hs
  go_enter Tryz.func137,Tryz.ntmps137
  go_wp2_with fail
  go_ret2
  exact ⟨rfl,(Below.refl _ _).alloc (Nat.le_refl _) _⟩
set_option maxHeartbeats 800000 in
theorem nw_succ (l:Nat) (hl6:l < 6) (IH:SaidNW l):SaidNW (l+1):=by
  intro d L B k n ao len cap ts w hB hs
  have hl:=hs.len.2
  have HL:Hid (len=ts.length):=hs.len.1
  have hbel:Below w.heap.size w (w.alloc (.cells #[.int .i64 k,.int .i64 n,.slice ao len cap] 31)):=(Below.refl _ _).alloc (Nat.le_refl _) _
  have hl0:(((l:Int)+1) == 0)=false:=by simp;omega
  cases hok:nodeOk k n len with
  | false =>
    have HO:Hid (nodesW (l+1) ⟨k,n,ts⟩=none):=by show _=_;simp only [nodesW];rw [← HL.out,hok];rfl
    have HK:Hid (nodeOk k n len=false):=hok
    clear hok
    go_enter Tryz.func137,Tryz.ntmps137
    go_wp2_with fail
    refine (tyNodeOk_any _ _ _ _ _ _ hl).mono ?_
    rintro e w1 ⟨rfl,hb1⟩
    rw [HK.out]
    go_wp2_with fail
    go_ret2
    rw [HO.out]
    exact ⟨rfl,hbel.trans (hb1.mono (by simp))⟩
  | true =>
    have HO:Hid (nodesW (l+1) ⟨k,n,ts⟩=(nodesL (nodesW l) ts).map (1+·)):=by show _=_;simp only [nodesW];rw [← HL.out,hok];rfl
    have hlen2:=nodeOk_len hok
    have HK:Hid (nodeOk k n len=true):=hok
    clear hok
    go_enter Tryz.func137,Tryz.ntmps137
    go_wp2_with fail
    refine (tyNodeOk_any _ _ _ _ _ _ hl).mono ?_
    rintro e w1 ⟨rfl,hb1⟩
    rw [HK.out]
    have hbelw:Below w.heap.size w w1:=hbel.trans (hb1.mono (by simp))
    have hsz1:=hb1.size
    have f2:=bcell hb1 (b:=w.heap.size) (by simp) 2
    simp at hsz1 f2
    clear hbel
    go_wp2_with fail
    go_loopw [6,21] (fun v i wr=>∃ j m:Nat,j≤len∧i=.int .i64 j∧Hid (nodesL (nodesW l) (ts.take j)=some m)∧v=.int .i64 (1+m)∧m≤63 * j∧Below w1.heap.size w1 wr) (fun _ i _=>len - (intOf i).toNat)
    case atStart=>exact ⟨0,0,by omega,rfl,rfl,rfl,by omega,Below.refl _ _⟩
    case round =>
      obtain ⟨j,m,hj,rfl,HM,rfl,hm,hbr⟩:=hrel
      have hszr:=hbr.size
      by_cases hlt:j < len
      · have hlt':j < ts.length:=by have:=HL.out;omega
        obtain ⟨b,o,rfl,_,hbB,ao1,len1,cap1,c0,c1,c2,hs1⟩:=hs.get j hlt'
        have hbw:Below w.heap.size w wr:=hbelw.trans (hbr.mono (by omega))
        have e0:=(bcell hbw (by omega) _).trans c0
        have e1:=(bcell hbw (by omega) _).trans c1
        have e2:=(bcell hbw (by omega) _).trans c2
        have hba:Below w.heap.size w (wr.alloc (.cells #[.int .i64 ts[j].K,.int .i64 ts[j].N,.slice ao1 len1 cap1] 31)):=hbw.alloc (by omega) _
        have hs2:=hs1.below hba hB
        have HF:=nodesL_take (nodesW l) ts j hlt' m HM.out
        cases hf:nodesW l ts[j] with
        | none =>
          have HN:Hid (nodesL (nodesW l) ts=none):=nodesL_none _ _ j hlt' hf
          have HF:Hid (nodesW l ⟨ts[j].K,ts[j].N,ts[j].A⟩=none):=by show _=_;rw [tr_eta];exact hf
          clear hf
          go_wp2_with fail
          refine (IH _ _ _ _ _ _ _ _ _ _ (by simp;omega) hs2).mono ?_
          rintro e w2 ⟨rfl,hb2⟩
          rw [HF.out]
          go_wp2_with fail
          go_ret2
          rw [HO.out,HN.out]
          exact ⟨rfl,hba.trans (hb2.mono (by simp;omega))⟩
        | some a =>
          have ha:=nodesW_lt _ _ _ hf
          have ha6:2 ^ l≤2 ^ 6:=Nat.pow_le_pow_right (by omega) (by omega)
          rw [hf] at HF
          have HF2:Hid (nodesL (nodesW l) (ts.take (j+1))=some (m+a)):=HF
          have HF1:Hid (nodesW l ⟨ts[j].K,ts[j].N,ts[j].A⟩=some a):=by show _=_;rw [tr_eta];exact hf
          clear hf HF
          go_wp2_with fail
          refine (IH _ _ _ _ _ _ _ _ _ _ (by simp;omega) hs2).mono ?_
          rintro e w2 ⟨rfl,hb2⟩
          rw [HF1.out]
          have hbr2:Below w1.heap.size w1 w2:=(hbr.alloc (by omega) _).trans (hb2.mono (by simp;omega))
          simp only [Option.getD_some,Option.isSome_some]
          go_wp2_with fail
          go_roundw
          case rel=>exact ⟨j+1,m+a,by omega,by go_num,HF2,by go_num,by omega,hbr2⟩
          case measure=>simp [intOf];omega
      · have HK2:Hid (nodesL (nodesW l) ts=some m):=by have h1:=HL.out;have h2:=HM.out;rw [List.take_of_length_le (by omega)] at h2;exact h2
        go_wp2_with fail
        go_ret2
        rw [HO.out,HK2.out]
        exact ⟨rfl,hbelw.trans (hbr.mono (by omega))⟩
theorem nw_any:∀ l,l≤6→SaidNW l:=by
  intro l
  induction l with
  | zero=>intro _;exact nw_zero
  | succ l ih=>intro h;exact nw_succ l (by omega) (ih (by omega))
def nodesT (t:Tr):Nat:=match nodesW 6 t with | some m=>if m≤60 then m else 0 | none=>0
def okT (t:Tr):Bool:=decide (0 < nodesT t)
set_option maxHeartbeats 400000 in
theorem tyNodes_any (d L B:Nat) (k n:Int) (ao:Option Addr) (len cap:Nat) (ts:List Tr) (w:World) (hB:B≤w.heap.size) (hs:Hs L B w d ao len ts) :
    Calls Tryz.prog 128 #[.agg #[.int .i64 k,.int .i64 n,.slice ao len cap]] w fun e w'=>e=.returned (.int .i64 (nodesT ⟨k,n,ts⟩))∧Below w.heap.size w w':=by
  have hbel:Below w.heap.size w (w.alloc (.cells #[.int .i64 k,.int .i64 n,.slice ao len cap] 31)):=(Below.refl _ _).alloc (Nat.le_refl _) _
  have hs1:=hs.below hbel hB
  cases hf:nodesW 6 ⟨k,n,ts⟩ with
  | none =>
    have HN:Hid (nodesT ⟨k,n,ts⟩=0):=by show _=_;simp [nodesT,hf]
    have HF:Hid (nodesW 6 ⟨k,n,ts⟩=none):=hf
    clear hf
    go_enter Tryz.func128,Tryz.ntmps128
    go_wp2_with fail
    refine (nw_any 6 (by omega) _ _ _ _ _ _ _ _ _ _ (by simp;omega) hs1).mono ?_
    rintro e w2 ⟨rfl,hb2⟩
    rw [HF.out]
    simp only [Option.getD_none,Option.isSome_none]
    go_wp2_with fail
    go_ret
    rw [HN.out]
    exact ⟨rfl,hbel.trans (hb2.mono (by simp))⟩
  | some m =>
    have hm:=nodesW_lt _ _ _ hf
    have hm6:m≤63:=by omega
    by_cases h60:m≤60
    · have HN:Hid (nodesT ⟨k,n,ts⟩=m):=by show _=_;simp [nodesT,hf,h60]
      have HF:Hid (nodesW 6 ⟨k,n,ts⟩=some m):=hf
      clear hf hm
      go_enter Tryz.func128,Tryz.ntmps128
      go_wp2_with fail
      refine (nw_any 6 (by omega) _ _ _ _ _ _ _ _ _ _ (by simp;omega) hs1).mono ?_
      rintro e w2 ⟨rfl,hb2⟩
      rw [HF.out]
      simp only [Option.getD_some,Option.isSome_some]
      go_wp2_with fail
      go_ret
      rw [HN.out]
      exact ⟨rfl,hbel.trans (hb2.mono (by simp))⟩
    · have HN:Hid (nodesT ⟨k,n,ts⟩=0):=by show _=_;simp [nodesT,hf,h60]
      have HF:Hid (nodesW 6 ⟨k,n,ts⟩=some m):=hf
      clear hf hm
      go_enter Tryz.func128,Tryz.ntmps128
      go_wp2_with fail
      refine (nw_any 6 (by omega) _ _ _ _ _ _ _ _ _ _ (by simp;omega) hs1).mono ?_
      rintro e w2 ⟨rfl,hb2⟩
      rw [HF.out]
      simp only [Option.getD_some,Option.isSome_some]
      go_wp2_with fail
      go_ret
      rw [HN.out]
      exact ⟨rfl,hbel.trans (hb2.mono (by simp))⟩
set_option maxHeartbeats 400000 in
theorem tyOk_any (d L B:Nat) (k n:Int) (ao:Option Addr) (len cap:Nat) (ts:List Tr) (w:World) (hB:B≤w.heap.size) (hs:Hs L B w d ao len ts) :
    Calls Tryz.prog 108 #[.agg #[.int .i64 k,.int .i64 n,.slice ao len cap]] w fun e w'=>e=.returned (.bool (okT ⟨k,n,ts⟩))∧Below w.heap.size w w':=by
  have hbel:Below w.heap.size w (w.alloc (.cells #[.int .i64 k,.int .i64 n,.slice ao len cap] 31)):=(Below.refl _ _).alloc (Nat.le_refl _) _
  have hs1:=hs.below hbel hB
  go_enter Tryz.func108,Tryz.ntmps108
  go_wp2_with fail
  refine (tyNodes_any _ _ _ _ _ _ _ _ _ _ (by simp;omega) hs1).mono ?_
  rintro e w2 ⟨rfl,hb2⟩
  go_wp2_with fail
  go_ret
  exact ⟨ret_bool (by simp [okT]),hbel.trans (hb2.mono (by simp))⟩
end Go.Proofs.YtcepgedbmffkdaaGreat
