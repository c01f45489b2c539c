/- What was signed is right under its root: of no program's walk. -/
import Derived.Test.YtiflfcpoajijaaaGreatDoorJFnCertificates20
import Derived.Test.YtiflfcpoajijaaaGreatDoorJFnCertificates24
import Derived.Test.YtiflfcpoajijaaaGreatDoorJFnCertificates11
import Derived.Test.YtiflfcpoajijaaaGreatDoorJFnCertificates12
import Derived.Test.YtiflfcpoajijaaaGreatDoorJFnCertificates21
import Derived.Test.YtiflfcpoajijaaaGreatDoorJFnCertificates28
import Derived.Deep.RegionLaw
import Derived.Deep.RegionHeld3
import Derived.Deep.CutRange
import Derived.Deep.DeepCutAuto
import Derived.BigRegion
namespace Go.Proofs.YtiflfcpoajijaaaGreatDoor.Lm
open Go.RowKit Go.Proofs.YtiflfcpoajijaaaGreatDoor.Sl Go.Proofs.YtiflfcpoajijaaaGreatDoor.By Go.Proofs.YtiflfcpoajijaaaGreatDoor.Ap Go.Proofs.YtiflfcpoajijaaaGreatDoor.Tx Go.Proofs.YtiflfcpoajijaaaGreatDoor.Sh Go.Proofs.YtiflfcpoajijaaaGreatDoor.Ho Go.Proofs.YtiflfcpoajijaaaGreatDoor.Se Go.Proofs.YtiflfcpoajijaaaGreatDoor.Ka Go.Proofs.YtiflfcpoajijaaaGreatDoor.Sx Go.Proofs.YtiflfcpoajijaaaGreatDoor.Hf Go.Proofs.YtiflfcpoajijaaaGreatDoor.Sa Go.Proofs.YtiflfcpoajijaaaGreatDoor.Kx Go.Proofs.YtiflfcpoajijaaaGreatDoor.Mb Go.Proofs.YtiflfcpoajijaaaGreatDoor.Sg Go.Proofs.YtiflfcpoajijaaaGreatDoor.Cs Go.Proofs.YtiflfcpoajijaaaGreatDoor.Lv Go.Proofs.YtiflfcpoajijaaaGreatDoor.Cr Go.Proofs.YtiflfcpoajijaaaGreatDoor.Pa

theorem snoc_at {xs : List ByteArray} {x : ByteArray} {j : Nat} : tnth (xs ++ [x]) j = if j < xs.length then tnth xs j else if j = xs.length then x else ⟨#[]⟩ := by
  unfold tnth
  rw [List.getD_eq_getElem?_getD, List.getD_eq_getElem?_getD]
  by_cases h : j < xs.length
  · rw [if_pos h, List.getElem?_append_left h]
  · rw [if_neg h, List.getElem?_append_right (by omega)]
    by_cases e : j = xs.length
    · subst e; rw [if_pos rfl, Nat.sub_self]; rfl
    · rw [if_neg e, List.getElem?_eq_none (by simp; omega)]; rfl
theorem ones_at (seed : ByteArray) (i : Nat) (d : ByteArray) : ∀ n j, j < n → tnth (onesTo seed i d n) j = sec seed i j (bn d j)
  | 0, j, h => by omega
  | n + 1, j, h => by
    unfold onesTo
    rw [snoc_at, onesTo_length]
    by_cases e : j < n
    · rw [if_pos e]; exact ones_at seed i d n j e
    · obtain rfl : j = n := by omega
      rw [if_neg e, if_pos rfl]
theorem rest_at (seed : ByteArray) (i : Nat) (d : ByteArray) : ∀ n j, j < n → tnth (restTo seed i d n) j = hashS (bys (sec seed i j (1 - bn d j)))
  | 0, j, h => by omega
  | n + 1, j, h => by
    unfold restTo
    rw [snoc_at, restTo_length]
    by_cases e : j < n
    · rw [if_pos e]; exact rest_at seed i d n j e
    · obtain rfl : j = n := by omega
      rw [if_neg e, if_pos rfl]
theorem keys_at (seed : ByteArray) : ∀ n j, j < n → tnth (keysTo seed n) j = keyS seed j
  | 0, j, h => by omega
  | n + 1, j, h => by
    unfold keysTo
    rw [snoc_at, keysTo_length]
    by_cases e : j < n
    · rw [if_pos e]; exact keys_at seed n j e
    · obtain rfl : j = n := by omega
      rw [if_neg e, if_pos rfl]
theorem lvl_at (ts : List ByteArray) : ∀ n j, j < n → tnth (lvlTo ts n) j = node (tnth ts (2 * j)) (tnth ts (2 * j + 1))
  | 0, j, h => by omega
  | n + 1, j, h => by
    unfold lvlTo
    rw [snoc_at, lvlTo_length]
    by_cases e : j < n
    · rw [if_pos e]; exact lvl_at ts n j e
    · obtain rfl : j = n := by omega
      rw [if_neg e, if_pos rfl]
/-- What a signature shows makes up the key. -/
theorem pairs_key (seed : ByteArray) (i : Nat) (d : ByteArray) : ∀ n, n ≤ 32 → pairTo d (onesTo seed i d 32) (restTo seed i d 32) n = hidTo seed i n
  | 0, _ => rfl
  | n + 1, h => by
    unfold pairTo hidTo
    rw [pairs_key seed i d n (by omega), ones_at seed i d 32 n (by omega), rest_at seed i d 32 n (by omega)]
    congr 1
    unfold pl0 pl1
    rcases (bn_two d n).1 with e | e <;> rw [e] <;> rfl
theorem climb_root : ∀ (q : Nat) (ts : List ByteArray) (k : Nat), k < 2 ^ q → climb (tnth ts k) k (pathN q ts k) = rootN q ts
  | 0, ts, k, h => by
    obtain rfl : k = 0 := by simpa using h
    rfl
  | q + 1, ts, k, h => by
    have hk : k / 2 < 2 ^ q := by rw [Nat.pow_succ] at h; omega
    have e : stepUp (tnth ts k) k (tnth ts (sib k)) = tnth (lvlTo ts (2 ^ q)) (k / 2) := by
      rw [lvl_at ts (2 ^ q) (k / 2) hk]
      unfold stepUp sib
      by_cases hp : k % 2 = 0
      · rw [if_pos hp, if_pos hp, show 2 * (k / 2) = k by omega]
      · rw [if_neg hp, if_neg hp, show 2 * (k / 2) = k - 1 by omega, show k - 1 + 1 = k by omega]
    show climb (stepUp (tnth ts k) k (tnth ts (sib k))) (k / 2) (pathN q (lvlTo ts (2 ^ q)) (k / 2)) = rootN q (lvlTo ts (2 ^ q))
    rw [e]
    exact climb_root q (lvlTo ts (2 ^ q)) (k / 2) hk
theorem up_root (seed msg : ByteArray) (k : Nat) (hk : k < 8) : upR msg k (onesTo seed k (dig msg) 32) (restTo seed k (dig msg) 32) (pathN 3 (keysTo seed 8) k) = rootS seed := by
  unfold upR rootS
  rw [pairs_key seed k (dig msg) 32 (Nat.le_refl _)]
  have := climb_root 3 (keysTo seed 8) k hk
  rw [keys_at seed 8 k hk] at this
  exact this
theorem path_all (ts : List ByteArray) : ∀ q, q ≤ 3 → Row32 q ts → ∀ k, k < 2 ^ q → ∀ t ∈ pathN q ts k, t.size = 32 := by
  intro q
  induction q generalizing ts with
  | zero => intro _ _ k _ t ht; cases ht
  | succ q ih =>
    intro hq hr k hk t ht
    have hs : sib k < 2 ^ (q + 1) := by
      unfold sib
      rw [Nat.pow_succ] at hk ⊢
      split <;> omega
    rcases List.mem_cons.1 ht with e | ht
    · rw [e]; exact hr.2 _ (tnth_mem (by rw [hr.1]; exact hs))
    · exact ih (lvlTo ts (2 ^ q)) (by omega) hr.up (k / 2) (by rw [Nat.pow_succ] at hk; omega) t ht
theorem hs_of {ts : List ByteArray} {n : Nat} (hn : ts.length = n) (h : ∀ t ∈ ts, t.size = 32) : hsB ts n = true := hs_yes hn (fun _ hj => h _ (tnth_mem hj))
theorem ones_all (seed : ByteArray) (i : Nat) (d : ByteArray) (hs : seed.size ≤ 60000) (n : Nat) : ∀ t ∈ onesTo seed i d n, t.size = 32 := by
  induction n with
  | zero => intro t ht; cases ht
  | succ n ih =>
    intro t ht
    unfold onesTo at ht
    rcases List.mem_append.1 ht with ht | ht
    · exact ih t ht
    · rw [List.mem_singleton.1 ht]; exact sec_size _ _ _ _ hs
theorem rest_all (seed : ByteArray) (i : Nat) (d : ByteArray) (hs : seed.size ≤ 60000) (n : Nat) : ∀ t ∈ restTo seed i d n, t.size = 32 := by
  induction n with
  | zero => intro t ht; cases ht
  | succ n ih =>
    intro t ht
    unfold restTo at ht
    rcases List.mem_append.1 ht with ht | ht
    · exact ih t ht
    · rw [List.mem_singleton.1 ht]; exact hash32 (sec_size _ _ _ _ hs)
/-- What was signed is right under the root of its seed. -/
theorem signed_ok (seed msg : ByteArray) (k : Nat) (hs : seed.size = 32) (hm : msg.size ≤ 65530) (hk : k < 8) : vC (rootS seed) msg (k : Int) (onesTo seed k (dig msg) 32) (restTo seed k (dig msg) 32) (pathN 3 (keysTo seed 8) k) = 0 := by
  have hr := rootS_size seed (by omega)
  have h7 : inR (k : Int) 0 7 = true := by unfold inR; rw [decide_eq_true (by omega), decide_eq_true (by omega)]; rfl
  unfold vC
  rw [if_neg (fun h => by rcases h with h | h <;> omega), if_pos ⟨hr, hs_of (onesTo_length _ _ _ _) (ones_all seed k _ (by omega) 32), hs_of (restTo_length _ _ _ _) (rest_all seed k _ (by omega) 32), hs_of (pathN_length _ _ _) (path_all _ 3 (by decide) (keys32 seed (by omega)) k hk)⟩, if_pos h7, Int.toNat_natCast, up_root seed msg k hk, if_pos rfl]

theorem row_form {w : World} {v : Value} {ts : List ByteArray} {n : Nat} (h : RowT w v ts) (hn : ts.length = n) (h0 : 0 < n) : ∃ b off c, v = .slice (some ⟨b, off, none⟩) n c := by
  obtain ⟨a, c, e, h⟩ := h
  rcases h with h | ⟨b, off, rfl, _⟩
  · rw [h] at hn; exact absurd hn (by show ¬ 0 = n; omega)
  · rw [hn] at e; exact ⟨b, off, c, e⟩
theorem row_at {w : World} {b off n c : Nat} {ts : List ByteArray} {i : Nat} (h : RowT w (.slice (some ⟨b, off, none⟩) n c) ts) (hi : i < ts.length) : w.cell? ⟨b, off + i, none⟩ = some (.string (tnth ts i)) := by
  obtain ⟨a, c', e, h⟩ := h
  rcases h with h | ⟨b', off', e', _, _, hc⟩
  · rw [h] at hi; exact absurd hi (by simp)
  · subst e'
    cases e
    exact hc i hi
def Said (f : Nat) (args : Array Value) (x : Value) : Prop := ∀ W, KTab W → 0 < W.heap.size → Calls Tryz.prog f args W fun e w' => e = .returned x ∧ Below W.heap.size W w'
end Go.Proofs.YtiflfcpoajijaaaGreatDoor.Lm
