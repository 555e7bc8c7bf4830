/- Map, Unmap, Perm. -/
import Derived.Test.YtfickpjecehboaaSC
set_option linter.unusedVariables false
namespace Go.Proofs.Ytfickpjecehboaa
open Go.RowKit Go.Maps

def mapE (A : As) (x perm : Nat) : Int := if ¬ (x < 1048576 ∧ x % 256 = 0) ∨ 7 < perm then 2 else if (A (x / 256)).isSome then 9 else 0
def mapA (A : As) (x perm : Nat) : As := if mapE A x perm = 0 then upd A (x / 256) (some (newPg perm)) else A
def unmapE (A : As) (x : Nat) : Int := if ¬ (x < 1048576 ∧ x % 256 = 0) then 2 else if (A (x / 256)).isSome then 0 else 3
def unmapA (A : As) (x : Nat) : As := if unmapE A x = 0 then upd A (x / 256) none else A
def permV (A : As) (x : Nat) : Nat := match A (x / 256) with | some f => (f 256).toNat | none => 0

set_option maxHeartbeats 1000000 in
set_option maxRecDepth 100000 in
theorem perm_any (b e n : Nat) (A : As) (x : Nat) (hx : x < 4294967296) (w : World) (h : SpaceAt w b e n A) :
    Calls Try.prog 13 #[.pointer (some ⟨b + 1, 0, none⟩), .int .u32 (x : Int)] w fun e w' => e = .returned (.tuple #[.int .u8 (permV A x : Nat), .bool (A (x / 256)).isSome]) ∧ w' = w := by
  obtain ⟨pg, h⟩ := h
  have hP := pageAt_any b e n pg A x hx w h
  cases hp : pg (x / 256) with
  | none =>
    have hA := h.none _ hp
    rw [hp, show ptrV none = .pointer none from rfl] at hP
    unfold permV
    rw [hA]
    clear hx h hp hA
    go_enter Try.func13, Try.ntmps13
    go_wp2_with (go_at_call 31; refine hP.mono ?_; rintro e w' ⟨rfl, rfl⟩)
    go_ret2
    exact ⟨rfl, rfl⟩
  | some p =>
    obtain ⟨q1, q2, q3, f, q4, q5⟩ := h.page _ p hp
    rw [hp, show ptrV (some p) = .pointer (some ⟨p, 0, none⟩) from rfl] at hP
    have c : w.cell? ⟨p, 256, none⟩ = some (.int .u8 ((f 256).toNat : Int)) := by rw [q5.cell, pcs_get f 256 (by decide)]
    unfold permV
    rw [q4]
    clear hx h hp q1 q2 q3 q4 q5
    go_enter Try.func13, Try.ntmps13
    go_wp2_with (go_at_call 31; refine hP.mono ?_; rintro e w' ⟨rfl, rfl⟩)
    go_ret2
    exact ⟨rfl, rfl⟩

def newCells (v : Value) : List Value := List.replicate 256 (Value.int .u8 0) ++ [v]
theorem rep_get (n j : Nat) (z v : Value) : (List.replicate n z ++ [v])[j]? = if j < n then some z else if j = n then some v else none := by
  by_cases hj : j < n
  · rw [List.getElem?_append_left (by simpa using hj), List.getElem?_replicate, if_pos hj, if_pos hj]
  · rw [if_neg hj, List.getElem?_append_right (by simpa using hj), List.length_replicate]
    by_cases h2 : j = n
    · subst h2; rw [if_pos rfl, Nat.sub_self]; rfl
    · rw [if_neg h2, List.getElem?_eq_none (by simp; omega)]
theorem newCells_eq (perm : Nat) (h : perm < 256) : newCells (.int .u8 (perm : Int)) = pcs (newPg perm) := by
  apply List.ext_getElem?
  intro j
  unfold newCells
  rw [rep_get]
  by_cases hj : j < 256
  · rw [pcs_get _ _ (by omega), if_pos hj]
    unfold newPg
    rw [if_neg (by omega)]
    rfl
  · rw [if_neg hj]
    by_cases h2 : j = 256
    · subst h2
      rw [pcs_get _ _ (by omega), if_pos rfl]
      unfold newPg
      rw [if_pos rfl]
      have : (perm.toUInt8).toNat = perm := by simp; omega
      rw [this]
    · rw [if_neg h2, List.getElem?_eq_none (by rw [pcs_length]; omega)]


theorem zeroCells_set (v : Value) : Try.zeroCells65.setIfInBounds 256 v = (newCells v).toArray := by kernel_rfl

theorem mapE_arg {A : As} {x perm : Nat} (h : ¬ (x < 1048576 ∧ x % 256 = 0) ∨ 7 < perm) : mapE A x perm = 2 := by unfold mapE; rw [if_pos h]
theorem mapA_not {A : As} {x perm : Nat} (h : mapE A x perm ≠ 0) : mapA A x perm = A := by unfold mapA; rw [if_neg h]

theorem neq_nil (x : Option Addr) (w : World) : (binOp .neq 63 (.pointer x) (.pointer none)).run Try.prog w = .ok (.bool (!x.isNone)) w := run_neq_pointer_nil w 63 x (by kernel_rfl)

set_option maxHeartbeats 1000000 in
set_option maxRecDepth 100000 in
theorem map_any (b e n : Nat) (hn : n < 1099511627776) (A : As) (x perm : Nat) (hx : x < 4294967296) (hpm : perm < 256) (w : World) (h : SpaceAt w b e n A) :
    Calls Try.prog 21 #[.pointer (some ⟨b + 1, 0, none⟩), .int .u32 (x : Int), .int .u8 (perm : Int)] w fun e' w' =>
      e' = .returned (.int .i64 (mapE A x perm)) ∧ (∃ e2, e ≤ e2 ∧ SpaceAt w' b e2 (n + 1) (mapA A x perm)) ∧ Turn w w' b e := by
  have HS := Lib.hid h
  obtain ⟨pg, h⟩ := h
  have H := Lib.hid h
  have c := h.cell
  have hI := isPage_any (x : Int) (by omega) (by omega) w
  have HN := Lib.hid hn
  have HPM := Lib.hid hpm
  obtain ⟨ob, hob⟩ : ∃ ob, ob = decide ((x : Int) < 1048576 ∧ (x : Int) % 256 = 0) := ⟨_, rfl⟩
  rw [← hob] at hI
  have HOB : Hid (ob = decide ((x : Int) < 1048576 ∧ (x : Int) % 256 = 0)) := Lib.hid hob
  have HStay : Hid (∀ w0, w0 = w → (∃ e2, e ≤ e2 ∧ SpaceAt w0 b e2 (n + 1) A) ∧ Turn w w0 b e) := Lib.hid (by
    rintro w0 rfl
    exact ⟨⟨e, Nat.le_refl _, pg, h.head, h.lo, h.hi, h.map.mono (Nat.le_succ _), h.none, h.page, h.inj⟩, Turn.refl _ _ _⟩)
  clear h hn hob hpm
  cases ob with
  | false =>
    have hr : mapE A x perm = 2 := mapE_arg (Or.inl (by have := HOB.out; simp at this; omega))
    have hA : mapA A x perm = A := mapA_not (by rw [hr]; decide)
    rw [hr, hA]
    clear hr hA hx
    go_enter Try.func21, Try.ntmps21
    go_wp2_with (go_at_call 39; refine hI.mono ?_; rintro e w' ⟨rfl, rfl⟩)
    go_ret
    exact ⟨rfl, HStay.out _ rfl⟩
  | true =>
    have h1 : x < 1048576 ∧ x % 256 = 0 := by have := HOB.out; simp at this; omega
    have H1 := Lib.hid h1
    by_cases h2 : (7 : Int) < perm
    · have hr : mapE A x perm = 2 := mapE_arg (Or.inr (by omega))
      have hA : mapA A x perm = A := mapA_not (by rw [hr]; decide)
      rw [hr, hA]
      clear h1 hr hA hx
      go_enter Try.func21, Try.ntmps21
      go_wp2_with (go_at_call 39; refine hI.mono ?_; rintro e w' ⟨rfl, rfl⟩)
      go_ret
      exact ⟨rfl, HStay.out _ rfl⟩
    · obtain ⟨i, hi⟩ : ∃ i : Nat, x = 256 * i := ⟨x / 256, by omega⟩
      have HI := Lib.hid hi
      have hxi : x / 256 = i := by omega
      have hl := H.out.look (x : Int) (by omega) (by omega)
      have hcast : ((256 * i : Nat) : Int) = 256 * (i : Int) := by omega
      rw [hi, hcast, pgk_at, ← hcast, ← hi] at hl
      cases hp : pg i with
      | some p =>
        rw [hp, show ptrV (some p) = .pointer (some ⟨p, 0, none⟩) from rfl] at hl
        obtain ⟨q1, q2, q3, f, q4, q5⟩ := H.out.page i p hp
        have hr : mapE A x perm = 9 := by unfold mapE; rw [if_neg (by omega), hxi, q4]; rfl
        have hA : mapA A x perm = A := mapA_not (by rw [hr]; decide)
        rw [hr, hA]
        have hne := neq_nil (some ⟨p, 0, none⟩)
        have hg : decide ((7 : Int) < (perm : Int)) = false := by simpa using h2
        clear h2 h1 hr hA hx hi hxi hcast q1 q2 q3 q4 q5 hp
        go_enter Try.func21, Try.ntmps21
        go_wp2_with (go_at_call 39; refine hI.mono ?_; rintro e w' ⟨rfl, rfl⟩)
        go_ret
        exact ⟨rfl, HStay.out _ rfl⟩
      | none =>
        rw [hp, show ptrV none = .pointer none from rfl] at hl
        have hr : mapE A x perm = 0 := by unfold mapE; rw [if_neg (by omega), hxi, H.out.none i hp]; rfl
        have hA : mapA A x perm = upd A i (some (newPg perm)) := by unfold mapA; rw [if_pos hr, hxi]
        rw [hr, hA]
        have HP := Lib.hid hp
        have hne := neq_nil none
        have hg : decide ((7 : Int) < (perm : Int)) = false := by simpa using h2
        clear h2 h1 hr hA hx hi hxi hcast hp
        go_enter Try.func21, Try.ntmps21
        go_wp2_with (first
          | (go_at_call 39; refine hI.mono ?_; rintro e w' ⟨rfl, rfl⟩)
          | (at_mapUpdate; refine wpList_put rfl _ _ _ rfl b n i _ pg rfl (H.out.map.same (Below.heap_alloc _ _ _ H.out.map.lt)) (by have := HN.out; unfold maxLen; omega) (x : Int) rfl (by have := HI.out; omega) (by have := HI.out; have := H1.out; omega) rfl ?_; intro w1 hm1 ht1))
        go_ret
        obtain ⟨hb0, hhi⟩ := And.intro H.out.map.lt H.out.hi
        have hlo := H.out.lo
        have hbl : Blk w1 w'.heap.size 65 (pcs (newPg perm)) := by
          unfold Blk
          rw [ht1.grown.block w'.heap.size (by simp) (by intro h; injection h; omega), heap_alloc_new, ← newCells_eq perm HPM.out, zeroCells_set]
        have hold : ∀ j, j < w'.heap.size → j ≠ b → w1.heap[j]? = w'.heap[j]? := fun j hj hne => by
          rw [ht1.grown.block j (by simp; omega) (by intro h; injection h; omega)]
          exact Below.heap_alloc _ _ _ hj
        have hsz : w1.heap.size = w'.heap.size + 1 := by
          obtain ⟨es, clock, es', clock', hbb, rfl⟩ := ht1
          simp [ChangeMaps.setBlock]
        refine ⟨rfl, ⟨w'.heap.size + 1, by omega, setp pg i (some w'.heap.size), H.out.head.same (hold _ (by omega) (by omega)), by omega, by omega, hm1, fun k hk => ?_, fun k p hk => ?_, fun k l p hk hl => ?_⟩, ⟨?_, ?_, ?_, by omega, fun j hj hm => hold j hj (fun h => hm (Or.inl h))⟩⟩
        · unfold setp at hk
          by_cases hki : k = i
          · rw [if_pos hki] at hk; cases hk
          · rw [if_neg hki] at hk
            unfold upd
            rw [if_neg hki]; exact H.out.none k hk
        · unfold setp at hk
          by_cases hki : k = i
          · rw [if_pos hki] at hk
            cases hk
            refine ⟨by have := HI.out; have := H1.out; omega, by omega, by omega, newPg perm, ?_, hbl⟩
            unfold upd
            rw [if_pos hki]
          · rw [if_neg hki] at hk
            obtain ⟨q1, q2, q3, f, q4, q5⟩ := H.out.page k p hk
            refine ⟨q1, q2, by omega, f, ?_, q5.same (hold _ (by omega) (by omega))⟩
            unfold upd
            rw [if_neg hki]; exact q4
        · unfold setp at hk hl
          by_cases hki : k = i
          · by_cases hli : l = i
            · omega
            · rw [if_pos hki] at hk
              rw [if_neg hli] at hl
              cases hk
              obtain ⟨q1, q2, q3, _⟩ := H.out.page l _ hl
              omega
          · by_cases hli : l = i
            · rw [if_neg hki] at hk
              rw [if_pos hli] at hl
              cases hl
              obtain ⟨q1, q2, q3, _⟩ := H.out.page k _ hk
              omega
            · rw [if_neg hki] at hk
              rw [if_neg hli] at hl
              exact H.out.inj k l p hk hl
        · exact ht1.grown.os
        · exact ht1.grown.tape
        · exact ht1.grown.output
end Go.Proofs.Ytfickpjecehboaa
