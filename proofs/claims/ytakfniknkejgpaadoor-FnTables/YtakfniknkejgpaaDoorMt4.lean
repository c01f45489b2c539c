/- Texts put together: Rb, Opg, Qc. -/
import Derived.Test.YtakfniknkejgpaaDoorMt3
import Derived.WalkSpells
import Derived.WalkKit
import Derived.ProofKit
import Derived.OpenShut
import Derived.Deep.Fields
import Derived.Test.YtakfniknkejgpaaDoorProg
import Derived.RowKit
import Derived.Below
import Derived.BigQuiet
/- Requests: what both RequestOK functions answer, and their helpers. -/
namespace Go.Proofs.YtakfniknkejgpaaDoor.Rq
open Go.RowKit

def inB (x a b : Int) : Bool := decide (a ≤ x ∧ x ≤ b)
theorem ret_bool {a b : Bool} (h : a = b) : Ending.returned (.bool a) = .returned (.bool b) := by rw [h]
theorem within_any (x a b : Int) (w : World) :
 Calls Tryd.prog 43 #[.int .i64 x, .int .i64 a, .int .i64 b] w fun e w' => e = .returned (.bool (inB x a b)) ∧ w' = w := by
 by_cases h1 : a ≤ x
 ·by_cases h2 : x ≤ b
  all_goals
   go_enter Tryd.func43, Tryd.ntmps43
   go_wp2
   go_ret
   exact ⟨ret_bool (by unfold inB; rw [Bool.eq_iff_iff]; simp; try omega), rfl⟩
 ·go_enter Tryd.func43, Tryd.ntmps43
  go_wp2
  go_ret
  exact ⟨ret_bool (by unfold inB; rw [Bool.eq_iff_iff]; simp; try omega), rfl⟩
theorem l01In_any (x a b : Int) (w : World) :
 Calls Tryd.prog 49 #[.int .i64 x, .int .i64 a, .int .i64 b] w fun e w' => e = .returned (.bool (inB x a b)) ∧ w' = w := by
 by_cases h1 : a ≤ x
 ·by_cases h2 : x ≤ b
  all_goals
   go_enter Tryd.func49, Tryd.ntmps49
   go_wp2
   go_ret
   exact ⟨ret_bool (by unfold inB; rw [Bool.eq_iff_iff]; simp; try omega), rfl⟩
 ·go_enter Tryd.func49, Tryd.ntmps49
  go_wp2
  go_ret
  exact ⟨ret_bool (by unfold inB; rw [Bool.eq_iff_iff]; simp; try omega), rfl⟩

def opB (n : ByteArray) : Bool := decide (n.size ≤ 12) && Nm.nameB n
theorem opNameOK_any (n : ByteArray) (w : World) (hs : n.size ≤ maxLen) :
 Calls Tryd.prog 83 #[.string n] w fun e w' => e = .returned (.bool (opB n)) ∧ Below w.heap.size w w' := by
 by_cases h : n.size ≤ 12
 ·have h1 : (n.size : Int) ≤ 12 := by omega
  have HO : Hid (opB n = Nm.nameB n) := by show opB n = Nm.nameB n; unfold opB; simp [h]
  go_enter Tryd.func83, Tryd.ntmps83
  go_wp2_with (go_at_call 102; refine (Nm.implNameOK_any _ _ hs).mono ?_; rintro e w' ⟨rfl, hb⟩)
  go_ret
  exact ⟨ret_bool HO.out.symm, hb⟩
 ·have h1 : (12 : Int) < (n.size : Int) := by omega
  have HO : Hid (opB n = false) := by show opB n = false; unfold opB; simp [h]
  go_enter Tryd.func83, Tryd.ntmps83
  go_wp2
  go_ret
  exact ⟨ret_bool HO.out.symm, Below.refl _ _⟩
theorem l02Text_any (n : ByteArray) (w : World) (hs : n.size ≤ maxLen) :
 Calls Tryd.prog 57 #[.string n, .int .i64 12] w fun e w' => e = .returned (.bool (opB n)) ∧ w' = w := by
 cases h : inB (n.size : Int) 1 12
 ·have HO : Hid (opB n = false) := by
   show opB n = false
   unfold inB at h
   unfold opB Nm.nameB
   simp at h ⊢
   omega
  go_enter Tryd.func57, Tryd.ntmps57
  go_wp2_with (go_at_call 49; refine (l01In_any _ _ _ _).mono ?_; rintro e w' ⟨rfl, rfl⟩)
  go_ret
  exact ⟨ret_bool HO.out.symm, rfl⟩
 ·have HO : Hid (opB n = Nm.nameB n) := by
   show opB n = Nm.nameB n
   unfold inB at h
   unfold opB
   simp at h ⊢
   omega
  go_enter Tryd.func57, Tryd.ntmps57
  go_wp2_with (first | (go_at_call 49; refine (l01In_any _ _ _ _).mono ?_; rintro e w' ⟨rfl, rfl⟩) | (go_at_call 86; refine (Nm.specNameOK_any _ _ hs).mono ?_; rintro e w' ⟨rfl, rfl⟩))
  go_ret
  exact ⟨ret_bool HO.out.symm, rfl⟩

end Go.Proofs.YtakfniknkejgpaaDoor.Rq

/- From arguments as the row opens them to what the walks ask: structs by value. -/
namespace Go.Proofs.YtakfniknkejgpaaDoor.Op
open Go.ChangeShapes Go.WideShapes Go.ChangeAt Go.RowKit Go.Deep

section
variable {H : Type} {enc : TypeId × Value → H} {P : Program} {w : World} {base : Nat} {spare : Nat → Bool} {held : Bool}
end
end Go.Proofs.YtakfniknkejgpaaDoor.Op

/- A region that draws its order, only reads, and calls functions that add to memory alone: one walk in the order of the text. -/
namespace Go.Proofs.YtakfniknkejgpaaDoor.Qc
open Go.RowKit

theorem region_class {P : Program} {id : Nat} {Q : Exit → Act → World → Prop} {a : Act} {w : World} {l : List Oper} {X : Type} {W : X → World} (hm : P.follows .mixedOrders = true) (hB : Region.lexB .any l.toArray = true) (hC : ∃ x, w.drew = W x)
 (h : wpQuiet P l.toArray (fun w' => ∃ x, w' = W x) (fun a' => ∀ w', (∃ x, w' = W x) → Q .normal a' w') l a) : (Code.region id l.toArray true).wp P Q a w :=
 wp_region_quiet (C := fun w' => ∃ x, w' = W x) hm hB hC (by simpa using h)
theorem klass (w : World) : ∃ (X : Type) (_ : Nonempty X) (W : X → World), (∀ w', Below w.heap.size w w' → ∃ x, w' = W x) ∧ ∀ x, Below w.heap.size w (W x) :=
 ⟨{w' : World // Below w.heap.size w w'}, ⟨⟨w, Below.refl _ _⟩⟩, fun x => x.1, fun w' h => ⟨⟨w', h⟩, rfl⟩, fun x => x.2⟩
theorem from_drew {w : World} : Below w.heap.size w w.drew := (Below.refl _ _).drew
theorem back {w : World} {X : Type} {W : X → World} {x : X} {w' : World} (HI : ∀ w', Below w.heap.size w w' → ∃ x, w' = W x) (HO : ∀ x, Below w.heap.size w (W x)) (h : Below (W x).heap.size (W x) w') : ∃ m, w' = W m :=
 HI _ ((HO x).trans (h.mono (HO x).size))
theorem cell_in {w : World} {X : Type} {W : X → World} (HO : ∀ x, Below w.heap.size w (W x)) {p : Addr} {v : Value} (hp : p.block < w.heap.size) (h : w.cell? p = some v) : ∀ x, (W x).cell? p = some v := fun x => ((HO x).cell hp).trans h
theorem lt_of_cell {w : World} {p : Addr} {v : Value} (h : w.cell? p = some v) : p.block < w.heap.size := World.block_lt_of_cell? w p h
theorem cell_all {w : World} {X : Type} {W : X → World} (HO : ∀ x, Below w.heap.size w (W x)) {p : Addr} {v : Value} (h : w.cell? p = some v) : ∀ x, (W x).cell? p = some v := cell_in HO (lt_of_cell h) h
end Go.Proofs.YtakfniknkejgpaaDoor.Qc
