/-
  The parts of a form, kind by kind.
-/
import Derived.Test.YtcepgedbmffkdaaGreatFbaZ7
namespace Go.Proofs.YtcepgedbmffkdaaGreat
open Go.RowKit
set_option linter.unusedVariables false
set_option linter.unusedSimpArgs false
theorem parts_1 (s z:ByteArray) (nd n tK tN:Int) (a1:Option Addr) (l1 c1:Nat) (a2:Option Addr) (l2 c2:Nat) (τ0 τ1 τ2:TypeId) (u0 u1 u2:Value) (w:World):Calls Tryz.prog 157 #[.agg #[.int .i64 n]] w fun e w'=>e=.returned (.slice none 0 0)∧Below w.heap.size w w':=by
  go_enter Tryz.func157,Tryz.ntmps157
  go_wp2_with fail
  go_ret
  exact ⟨rfl,by first | exact Below.refl _ _ | exact (Below.refl _ _).alloc (Nat.le_refl _) _⟩
theorem parts_2 (s z:ByteArray) (nd n tK tN:Int) (a1:Option Addr) (l1 c1:Nat) (a2:Option Addr) (l2 c2:Nat) (τ0 τ1 τ2:TypeId) (u0 u1 u2:Value) (w:World):Calls Tryz.prog 158 #[.agg #[.int .i64 n]] w fun e w'=>e=.returned (.slice none 0 0)∧Below w.heap.size w w':=by
  go_enter Tryz.func158,Tryz.ntmps158
  go_wp2_with fail
  go_ret
  exact ⟨rfl,by first | exact Below.refl _ _ | exact (Below.refl _ _).alloc (Nat.le_refl _) _⟩
theorem parts_3 (s z:ByteArray) (nd n tK tN:Int) (a1:Option Addr) (l1 c1:Nat) (a2:Option Addr) (l2 c2:Nat) (τ0 τ1 τ2:TypeId) (u0 u1 u2:Value) (w:World):Calls Tryz.prog 159 #[.agg #[.string s,.slice a2 l2 c2]] w fun e w'=>e=.returned (.slice none 0 0)∧Below w.heap.size w w':=by
  go_enter Tryz.func159,Tryz.ntmps159
  go_wp2_with fail
  go_ret
  exact ⟨rfl,by first | exact Below.refl _ _ | exact (Below.refl _ _).alloc (Nat.le_refl _) _⟩
theorem parts_4 (s z:ByteArray) (nd n tK tN:Int) (a1:Option Addr) (l1 c1:Nat) (a2:Option Addr) (l2 c2:Nat) (τ0 τ1 τ2:TypeId) (u0 u1 u2:Value) (w:World):Calls Tryz.prog 160 #[.agg #[.int .i64 nd,.string s,.int .i64 tK,.int .i64 tN,.slice a1 l1 c1,.iface τ0 u0]] w fun e w'=>∃ g,e=.returned (.slice (some ⟨g,0,none⟩) 1 1)∧Below w.heap.size w w'∧w.heap.size≤g∧w'.heap[g]?=some (.cells #[.iface τ0 u0] 52 (0,0)):=by
  go_enter Tryz.func160,Tryz.ntmps160
  go_wp2_with fail
  go_ret
  exact ⟨_,rfl,((Below.refl _ _).alloc (Nat.le_refl _) _).alloc (by simp) _,by omega,heap_new (by simp)⟩
theorem parts_5 (s z:ByteArray) (nd n tK tN:Int) (a1:Option Addr) (l1 c1:Nat) (a2:Option Addr) (l2 c2:Nat) (τ0 τ1 τ2:TypeId) (u0 u1 u2:Value) (w:World):Calls Tryz.prog 161 #[.agg #[.int .i64 nd,.iface τ0 u0,.iface τ1 u1]] w fun e w'=>∃ g,e=.returned (.slice (some ⟨g,0,none⟩) 2 2)∧Below w.heap.size w w'∧w.heap.size≤g∧w'.heap[g]?=some (.cells #[.iface τ0 u0,.iface τ1 u1] 52 (0,0)):=by
  go_enter Tryz.func161,Tryz.ntmps161
  go_wp2_with fail
  go_ret
  exact ⟨_,rfl,((Below.refl _ _).alloc (Nat.le_refl _) _).alloc (by simp) _,by omega,heap_new (by simp)⟩
theorem parts_6 (s z:ByteArray) (nd n tK tN:Int) (a1:Option Addr) (l1 c1:Nat) (a2:Option Addr) (l2 c2:Nat) (τ0 τ1 τ2:TypeId) (u0 u1 u2:Value) (w:World):Calls Tryz.prog 162 #[.agg #[.string s,.int .i64 n,.iface τ0 u0,.iface τ1 u1]] w fun e w'=>∃ g,e=.returned (.slice (some ⟨g,0,none⟩) 2 2)∧Below w.heap.size w w'∧w.heap.size≤g∧w'.heap[g]?=some (.cells #[.iface τ0 u0,.iface τ1 u1] 52 (0,0)):=by
  go_enter Tryz.func162,Tryz.ntmps162
  go_wp2_with fail
  go_ret
  exact ⟨_,rfl,((Below.refl _ _).alloc (Nat.le_refl _) _).alloc (by simp) _,by omega,heap_new (by simp)⟩
theorem parts_7 (s z:ByteArray) (nd n tK tN:Int) (a1:Option Addr) (l1 c1:Nat) (a2:Option Addr) (l2 c2:Nat) (τ0 τ1 τ2:TypeId) (u0 u1 u2:Value) (w:World):Calls Tryz.prog 163 #[.agg #[.string s,.int .i64 n,.int .i64 tK,.int .i64 tN,.slice a1 l1 c1,.iface τ0 u0,.iface τ1 u1]] w fun e w'=>∃ g,e=.returned (.slice (some ⟨g,0,none⟩) 2 2)∧Below w.heap.size w w'∧w.heap.size≤g∧w'.heap[g]?=some (.cells #[.iface τ0 u0,.iface τ1 u1] 52 (0,0)):=by
  go_enter Tryz.func163,Tryz.ntmps163
  go_wp2_with fail
  go_ret
  exact ⟨_,rfl,((Below.refl _ _).alloc (Nat.le_refl _) _).alloc (by simp) _,by omega,heap_new (by simp)⟩
theorem parts_8 (s z:ByteArray) (nd n tK tN:Int) (a1:Option Addr) (l1 c1:Nat) (a2:Option Addr) (l2 c2:Nat) (τ0 τ1 τ2:TypeId) (u0 u1 u2:Value) (w:World):Calls Tryz.prog 164 #[.agg #[.iface τ0 u0,.iface τ1 u1,.iface τ2 u2]] w fun e w'=>∃ g,e=.returned (.slice (some ⟨g,0,none⟩) 3 3)∧Below w.heap.size w w'∧w.heap.size≤g∧w'.heap[g]?=some (.cells #[.iface τ0 u0,.iface τ1 u1,.iface τ2 u2] 52 (0,0)):=by
  go_enter Tryz.func164,Tryz.ntmps164
  go_wp2_with fail
  go_ret
  exact ⟨_,rfl,((Below.refl _ _).alloc (Nat.le_refl _) _).alloc (by simp) _,by omega,heap_new (by simp)⟩
theorem parts_9 (s z:ByteArray) (nd n tK tN:Int) (a1:Option Addr) (l1 c1:Nat) (a2:Option Addr) (l2 c2:Nat) (τ0 τ1 τ2:TypeId) (u0 u1 u2:Value) (w:World):Calls Tryz.prog 165 #[.agg #[.iface τ0 u0,.iface τ1 u1]] w fun e w'=>∃ g,e=.returned (.slice (some ⟨g,0,none⟩) 2 2)∧Below w.heap.size w w'∧w.heap.size≤g∧w'.heap[g]?=some (.cells #[.iface τ0 u0,.iface τ1 u1] 52 (0,0)):=by
  go_enter Tryz.func165,Tryz.ntmps165
  go_wp2_with fail
  go_ret
  exact ⟨_,rfl,((Below.refl _ _).alloc (Nat.le_refl _) _).alloc (by simp) _,by omega,heap_new (by simp)⟩
theorem parts_10 (s z:ByteArray) (nd n tK tN:Int) (a1:Option Addr) (l1 c1:Nat) (a2:Option Addr) (l2 c2:Nat) (τ0 τ1 τ2:TypeId) (u0 u1 u2:Value) (w:World):Calls Tryz.prog 166 #[.agg #[.iface τ0 u0]] w fun e w'=>∃ g,e=.returned (.slice (some ⟨g,0,none⟩) 1 1)∧Below w.heap.size w w'∧w.heap.size≤g∧w'.heap[g]?=some (.cells #[.iface τ0 u0] 52 (0,0)):=by
  go_enter Tryz.func166,Tryz.ntmps166
  go_wp2_with fail
  go_ret
  exact ⟨_,rfl,((Below.refl _ _).alloc (Nat.le_refl _) _).alloc (by simp) _,by omega,heap_new (by simp)⟩
theorem parts_11 (s z:ByteArray) (nd n tK tN:Int) (a1:Option Addr) (l1 c1:Nat) (a2:Option Addr) (l2 c2:Nat) (τ0 τ1 τ2:TypeId) (u0 u1 u2:Value) (w:World):Calls Tryz.prog 167 #[.agg #[.iface τ0 u0]] w fun e w'=>∃ g,e=.returned (.slice (some ⟨g,0,none⟩) 1 1)∧Below w.heap.size w w'∧w.heap.size≤g∧w'.heap[g]?=some (.cells #[.iface τ0 u0] 52 (0,0)):=by
  go_enter Tryz.func167,Tryz.ntmps167
  go_wp2_with fail
  go_ret
  exact ⟨_,rfl,((Below.refl _ _).alloc (Nat.le_refl _) _).alloc (by simp) _,by omega,heap_new (by simp)⟩
theorem parts_12 (s z:ByteArray) (nd n tK tN:Int) (a1:Option Addr) (l1 c1:Nat) (a2:Option Addr) (l2 c2:Nat) (τ0 τ1 τ2:TypeId) (u0 u1 u2:Value) (w:World):Calls Tryz.prog 168 #[.agg #[.int .i64 tK,.int .i64 tN,.slice a1 l1 c1]] w fun e w'=>e=.returned (.slice none 0 0)∧Below w.heap.size w w':=by
  go_enter Tryz.func168,Tryz.ntmps168
  go_wp2_with fail
  go_ret
  exact ⟨rfl,by first | exact Below.refl _ _ | exact (Below.refl _ _).alloc (Nat.le_refl _) _⟩
theorem parts_13 (s z:ByteArray) (nd n tK tN:Int) (a1:Option Addr) (l1 c1:Nat) (a2:Option Addr) (l2 c2:Nat) (τ0 τ1 τ2:TypeId) (u0 u1 u2:Value) (w:World):Calls Tryz.prog 169 #[.agg #[.iface τ0 u0,.iface τ1 u1]] w fun e w'=>∃ g,e=.returned (.slice (some ⟨g,0,none⟩) 2 2)∧Below w.heap.size w w'∧w.heap.size≤g∧w'.heap[g]?=some (.cells #[.iface τ0 u0,.iface τ1 u1] 52 (0,0)):=by
  go_enter Tryz.func169,Tryz.ntmps169
  go_wp2_with fail
  go_ret
  exact ⟨_,rfl,((Below.refl _ _).alloc (Nat.le_refl _) _).alloc (by simp) _,by omega,heap_new (by simp)⟩
theorem parts_14 (s z:ByteArray) (nd n tK tN:Int) (a1:Option Addr) (l1 c1:Nat) (a2:Option Addr) (l2 c2:Nat) (τ0 τ1 τ2:TypeId) (u0 u1 u2:Value) (w:World):Calls Tryz.prog 170 #[.agg #[.string s,.string z,.iface τ0 u0,.iface τ1 u1,.iface τ2 u2]] w fun e w'=>∃ g,e=.returned (.slice (some ⟨g,0,none⟩) 3 3)∧Below w.heap.size w w'∧w.heap.size≤g∧w'.heap[g]?=some (.cells #[.iface τ0 u0,.iface τ1 u1,.iface τ2 u2] 52 (0,0)):=by
  go_enter Tryz.func170,Tryz.ntmps170
  go_wp2_with fail
  go_ret
  exact ⟨_,rfl,((Below.refl _ _).alloc (Nat.le_refl _) _).alloc (by simp) _,by omega,heap_new (by simp)⟩
theorem parts_15 (s z:ByteArray) (nd n tK tN:Int) (a1:Option Addr) (l1 c1:Nat) (a2:Option Addr) (l2 c2:Nat) (τ0 τ1 τ2:TypeId) (u0 u1 u2:Value) (w:World):Calls Tryz.prog 171 #[.agg #[.int .i64 n,.iface τ0 u0,.iface τ1 u1]] w fun e w'=>∃ g,e=.returned (.slice (some ⟨g,0,none⟩) 2 2)∧Below w.heap.size w w'∧w.heap.size≤g∧w'.heap[g]?=some (.cells #[.iface τ0 u0,.iface τ1 u1] 52 (0,0)):=by
  go_enter Tryz.func171,Tryz.ntmps171
  go_wp2_with fail
  go_ret
  exact ⟨_,rfl,((Below.refl _ _).alloc (Nat.le_refl _) _).alloc (by simp) _,by omega,heap_new (by simp)⟩
theorem parts_16 (s z:ByteArray) (nd n tK tN:Int) (a1:Option Addr) (l1 c1:Nat) (a2:Option Addr) (l2 c2:Nat) (τ0 τ1 τ2:TypeId) (u0 u1 u2:Value) (w:World):Calls Tryz.prog 172 #[.agg #[.int .i64 tK,.int .i64 tN,.slice a1 l1 c1,.iface τ0 u0]] w fun e w'=>∃ g,e=.returned (.slice (some ⟨g,0,none⟩) 1 1)∧Below w.heap.size w w'∧w.heap.size≤g∧w'.heap[g]?=some (.cells #[.iface τ0 u0] 52 (0,0)):=by
  go_enter Tryz.func172,Tryz.ntmps172
  go_wp2_with fail
  go_ret
  exact ⟨_,rfl,((Below.refl _ _).alloc (Nat.le_refl _) _).alloc (by simp) _,by omega,heap_new (by simp)⟩
theorem parts_17 (s z:ByteArray) (nd n tK tN:Int) (a1:Option Addr) (l1 c1:Nat) (a2:Option Addr) (l2 c2:Nat) (τ0 τ1 τ2:TypeId) (u0 u1 u2:Value) (w:World):Calls Tryz.prog 173 #[.agg #[.string s,.iface τ0 u0,.iface τ1 u1]] w fun e w'=>∃ g,e=.returned (.slice (some ⟨g,0,none⟩) 2 2)∧Below w.heap.size w w'∧w.heap.size≤g∧w'.heap[g]?=some (.cells #[.iface τ0 u0,.iface τ1 u1] 52 (0,0)):=by
  go_enter Tryz.func173,Tryz.ntmps173
  go_wp2_with fail
  go_ret
  exact ⟨_,rfl,((Below.refl _ _).alloc (Nat.le_refl _) _).alloc (by simp) _,by omega,heap_new (by simp)⟩
end Go.Proofs.YtcepgedbmffkdaaGreat
