/- Some texts of one proof, one behind the other; each has its own head below. -/
import Derived.Test.YtgdbhmlmioihpaaGreatDoorX00
import Derived.Test.YtgdbhmlmioihpaaGreatDoorX04
import Derived.Test.YtgdbhmlmioihpaaGreatDoorX02
/- The pages that there are, as a rising list. -/
section
set_option linter.unusedVariables false
namespace Go.Proofs.YtgdbhmlmioihpaaGreatDoor
open Go.RowKit

/-- The addresses of a space's pages, ascending. -/
def pagesOf (A : As) : List Int := ((List.range 4096).filter fun i => (A i).isSome).map fun (i : Nat) => 256 * (i : Int)
theorem mem_pagesOf (A : As) (x : Int) : x ∈ pagesOf A ↔ ∃ i : Nat, i < 4096 ∧ (A i).isSome = true ∧ x = 256 * (i : Int) := by
  unfold pagesOf
  simp only [List.mem_map, List.mem_filter, List.mem_range]
  constructor
  · rintro ⟨i, ⟨h1, h2⟩, rfl⟩; exact ⟨i, h1, h2, rfl⟩
  · rintro ⟨i, h1, h2, rfl⟩; exact ⟨i, ⟨h1, h2⟩, rfl⟩
theorem pagesOf_lt (A : As) : (pagesOf A).Pairwise (· < ·) := by
  unfold pagesOf
  rw [List.pairwise_map]
  refine List.Pairwise.imp ?_ (List.pairwise_lt_range.filter _)
  intro a c h
  omega
end Go.Proofs.YtgdbhmlmioihpaaGreatDoor
end

/- What putting does to bytes, pages and perms; plain mathematics. -/
section
set_option linter.unusedVariables false
namespace Go.Proofs.YtgdbhmlmioihpaaGreatDoor
open Go.RowKit Go.Maps

theorem putAt_some (A : As) (addr : Nat) (s : List UInt8) (i : Nat) : (putAt A addr s i).isSome = (A i).isSome := by unfold putAt; cases A i <;> rfl
theorem putR_some (A : As) (need x : Nat) (s : ByteArray) (i : Nat) : (putR A need x s i).isSome = (A i).isSome := by
  unfold putR
  split
  · exact putAt_some _ _ _ _
  · rfl
theorem pagesOf_put (A : As) (need x : Nat) (s : ByteArray) : pagesOf (putR A need x s) = pagesOf A := by unfold pagesOf; simp only [putR_some]
theorem putE_two (A : As) (need x : Nat) (s : ByteArray) : putE A need x s = 0 ∨ putE A need x s = 50 := by unfold putE; split <;> simp
theorem putE_yes {A : As} {need x : Nat} {s : ByteArray} (h : putE A need x s = 0) : okAll A need x s.size = true ∧ putR A need x s = putAt A x s.data.toList := by
  unfold putE at h
  unfold putR
  split at h
  · rename_i h2; rw [if_pos h2]; exact ⟨h2, rfl⟩
  · cases h
theorem putR_no {A : As} {need x : Nat} {s : ByteArray} (h : putE A need x s ≠ 0) : putR A need x s = A := by
  unfold putE at h
  unfold putR
  split
  · rename_i h2; rw [if_pos h2] at h; exact absurd rfl h
  · rfl
theorem met_zero (f : Pg) : met 0 f = true := by unfold met; simp
theorem okPg_zero (A : As) (i : Nat) : okPg A 0 i = (A i).isSome := by
  unfold okPg
  cases A i with
  | none => rfl
  | some f => exact met_zero f
theorem okPg_has {A : As} {need i : Nat} (h : okPg A need i = true) : (A i).isSome = true := by
  obtain ⟨f, h1, _⟩ := okPg_some h; rw [h1]; rfl
theorem okAll_has {A : As} {need x n : Nat} (h : okAll A need x n = true) : okAll A 0 x n = true := by
  rw [okAll_iff] at h ⊢
  intro k hk
  rw [okPg_zero]
  exact okPg_has (h k hk)
theorem byteAt_put {A : As} {x : Nat} (addr : Nat) (s : List UInt8) (h : (A (x / 256)).isSome = true) : byteAt (putAt A addr s) x = if addr ≤ x ∧ x < addr + s.length then s.getD (x - addr) 0 else byteAt A x := by
  obtain ⟨f, hf⟩ := Option.isSome_iff_exists.1 h
  unfold byteAt putAt
  rw [hf]
  show putPg f (x / 256) addr s (x % 256) = _
  unfold putPg
  rw [show 256 * (x / 256) + x % 256 = x by omega]
  by_cases hc : addr ≤ x ∧ x < addr + s.length
  · rw [if_pos ⟨by omega, hc⟩, if_pos hc]
  · rw [if_neg (fun h => hc h.2), if_neg hc]
theorem bytesAt_put {A : As} {need addr : Nat} {s : List UInt8} (h : okAll A need addr s.length = true) : bytesAt (putAt A addr s) addr s.length = s := by
  apply List.ext_getElem?
  intro k
  by_cases hk : k < s.length
  · rw [okAll_iff] at h
    rw [bytesAt_get _ _ _ _ hk, byteAt_put addr s (okPg_has (h k hk)), if_pos (by omega), List.getD_eq_getElem?_getD, show addr + k - addr = k by omega, List.getElem?_eq_getElem hk]
    rfl
  · rw [List.getElem?_eq_none (by rw [bytesAt_length]; omega), List.getElem?_eq_none (by omega)]
theorem okAll_put (A : As) (addr : Nat) (s : List UInt8) (need x n : Nat) : okAll (putAt A addr s) need x n = okAll A need x n := by
  unfold okAll
  simp only [putAt_perm]
theorem put_look {A : As} {need x : Nat} {s : ByteArray} (hs : s.size ≤ 1048576) (h : putE A need x s = 0) : getE (putR A need x s) 0 x (s.size : Int) = 0 ∧ getS (putR A need x s) 0 x (s.size : Int) = s := by
  obtain ⟨h1, h2⟩ := putE_yes h
  have e : getE (putR A need x s) 0 x (s.size : Int) = 0 := by
    unfold getE
    rw [if_neg (by omega), h2, okAll_put, Int.toNat_natCast, if_pos (okAll_has h1)]
  refine ⟨e, ?_⟩
  unfold getS
  rw [if_pos e, h2, Int.toNat_natCast]
  have h3 : okAll A need x s.data.toList.length = true := by simpa using h1
  have := bytesAt_put h3
  rw [Array.length_toList] at this
  rw [show s.size = s.data.size from rfl, this]

def bAt (s : ByteArray) (k : Nat) : Int := ((s.data.toList.getD k 0).toNat : Int)
theorem run_index (s : ByteArray) (i : Int) (k : Nat) (hi : (k : Int) = i) (h : k < s.size) (x : Int) (hx : bAt s k = x) (W : World) : (Instr.index 9 (.string s) (.int .i64 i)).run Tryz.prog W = .ok (.int .u8 x) W := by
  have e : bAt s k = (s[k].toNat : Int) := by
    unfold bAt
    rw [List.getD_eq_getElem?_getD, List.getElem?_eq_getElem (by simpa using h)]
    rfl
  have hk : (k : Int) < (s.size : Int) := by omega
  rw [← hx, e, ← hi]
  simp [go_sem, hk]

/-- A page that is looked at. -/
theorem look_page {A : As} {i : Nat} (hi : i < 4096) (h : (A i).isSome = true) : getE A 0 (256 * i) 256 = 0 ∧ (getS A 0 (256 * i) 256).size = 256 ∧ ∀ k, k < 256 → bAt (getS A 0 (256 * i) 256) k = ((byteAt A (256 * i + k)).toNat : Int) := by
  have e : getE A 0 (256 * i) 256 = 0 := by
    unfold getE
    rw [if_neg (by omega), if_pos]
    refine okAll_pages _ _ _ _ fun j h1 h2 => ?_
    obtain rfl : j = i := by omega
    rw [okPg_zero]; exact h
  have es : getS A 0 (256 * i) 256 = ⟨(bytesAt A (256 * i) 256).toArray⟩ := by unfold getS; rw [if_pos e]; rfl
  refine ⟨e, ?_, fun k hk => ?_⟩
  · rw [es]
    show (bytesAt A (256 * i) 256).toArray.size = 256
    rw [List.size_toArray, bytesAt_length]
  · rw [es]
    unfold bAt
    show (((bytesAt A (256 * i) 256).toArray.toList.getD k 0).toNat : Int) = _
    rw [List.getD_eq_getElem?_getD]
    show ((((bytesAt A (256 * i) 256)[k]?).getD 0).toNat : Int) = _
    rw [bytesAt_get _ _ _ _ hk]
    rfl

structure PageX (A A2 : As) (E : Int) (addr n x : Nat) (a b : ByteArray) (p : Nat) : Prop where
  le : x ≤ 1048320
  e1 : getE A2 0 x 256 = 0
  e2 : getE A 0 x 256 = 0
  s1 : getS A2 0 x 256 = a
  s2 : getS A 0 x 256 = b
  z1 : a.size = 256
  z2 : b.size = 256
  p1 : permV A2 x = p
  p2 : permV A x = p
  eq : ∀ k, k < 256 → ¬ (E = 0 ∧ addr ≤ x + k ∧ x + k < addr + n) → bAt a k = bAt b k

theorem permV_put (A : As) (need x y : Nat) (s : ByteArray) : permV (putR A need x s) y = permV A y := by
  unfold putR
  split
  · unfold permV putAt
    cases A (y / 256) with
    | none => rfl
    | some f =>
      show (putPg f (y / 256) x s.data.toList 256).toNat = (f 256).toNat
      unfold putPg
      rw [if_neg (by omega)]
  · rfl

theorem page_x (A : As) (need addr : Nat) (s : ByteArray) (j : Nat) (hj : j < (pagesOf A).length) :
    ∃ x a b p, (pagesOf A).toArray[j]! = ((x : Nat) : Int) ∧ PageX A (putR A need addr s) (putE A need addr s) addr s.size x a b p := by
  have hm : (pagesOf A)[j] ∈ pagesOf A := List.getElem_mem hj
  obtain ⟨i, hi, hs, hx⟩ := (mem_pagesOf A _).1 hm
  have hs2 : (putR A need addr s i).isSome = true := by rw [putR_some]; exact hs
  obtain ⟨q1, q2, q3⟩ := look_page (A := A) hi hs
  obtain ⟨r1, r2, r3⟩ := look_page (A := putR A need addr s) hi hs2
  have hj' : (pagesOf A).toArray[j]! = ((256 * i : Nat) : Int) := by
    rw [getElem!_pos (pagesOf A).toArray j (by simpa using hj), List.getElem_toArray, hx]
    omega
  refine ⟨256 * i, _, _, _, hj', ⟨by omega, r1, q1, rfl, rfl, r2, q2, permV_put _ _ _ _ _, rfl, fun k hk hn => ?_⟩⟩
  have hb : byteAt (putR A need addr s) (256 * i + k) = byteAt A (256 * i + k) := by
    by_cases hE : putE A need addr s = 0
    · obtain ⟨h1, h2⟩ := putE_yes hE
      rw [h2, byteAt_put _ _ (by rw [show (256 * i + k) / 256 = i by omega]; exact hs), if_neg]
      rintro ⟨h3, h4⟩
      exact hn ⟨hE, h3, h4⟩
    · rw [putR_no hE]
  rw [r3 k hk, q3 k hk, hb]
theorem pagesOf_size (A : As) : (pagesOf A).length ≤ 4096 := by
  unfold pagesOf
  rw [List.length_map]
  exact Nat.le_trans (List.length_filter_le _ _) (by simp)
end Go.Proofs.YtgdbhmlmioihpaaGreatDoor
end
