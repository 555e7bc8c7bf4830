/- What a filled symbol of lines is decoded to: plain mathematics for AsmFills. -/
import Derived.Test.YtlnnhgmkibjgmaaDoorY04
import Derived.Test.YtlnnhgmkibjgmaaDoorX27
import Derived.Test.YtlnnhgmkibjgmaaDoorY09
set_option linter.unusedVariables false
namespace Go.Proofs.YtlnnhgmkibjgmaaDoor
open Go Go.RowKit Oj Al

/-- Where Make answers none of its errors. -/
theorem mkE_zero {nm : List UInt8} {bi : Int} {nt : List Nt} {l : List Ln} (h : mkE nm bi nt l = 0) : l.length ≤ 1024 ∧ (∀ k, k < l.length → lnOk (l.getD k Ln.nought) = true) ∧ (∀ k, k < l.length → lblOk l k = true) ∧ (∀ k, k < l.length → toOk l k = true) ∧ symOk (symL nm bi nt l) = true := by
  have hall : ∀ {n : Nat} {p : Nat → Bool}, ¬ allN n p = false → ∀ k, k < n → p k = true := fun {n p} h k hk => by
    cases hp : p k
    · exact absurd (allN_false hk hp) h
    · rfl
  unfold mkE at h
  split at h
  · omega
  · rename_i h1
    split at h
    · omega
    · rename_i h2
      split at h
      · omega
      · rename_i h3
        split at h
        · omega
        · rename_i h4
          split at h
          · rename_i h5
            exact ⟨by omega, hall h2, hall h3, hall h4, h5⟩
          · omega
theorem wantI_range (self : List UInt8) (own other : Int) (l : List Ln) (x : Ln) (h : 0 ≤ x.im ∧ x.im < 4294967296) : 0 ≤ wantI self own other l x ∧ wantI self own other l x < 4294967296 := by
  unfold wantI
  split
  · omega
  · split
    · omega
    · exact h
/-- A line that may be, may be with whatever number it is filled with. -/
theorem want_ok (self : List UInt8) (own other : Int) (l : List Ln) (x : Ln) (h : lnOk x = true) : I.Ix.insnOk x.op x.d x.a x.b (wantI self own other l x) = true := by
  have h1 := lnOk_insn h
  cases hA : adr x
  · have hA2 := hA
    unfold adr at hA2
    rw [Bool.or_eq_false_iff, decide_eq_false_iff_not, decide_eq_false_iff_not, Decidable.not_not, Decidable.not_not] at hA2
    have e : wantI self own other l x = im0 x := by
      unfold wantI im0
      rw [hA, hA2.1, hA2.2]
      simp
    rw [e]
    exact h1
  · have h4 : I.Ix.insnOk x.op x.d x.a x.b 4 = true := by
      unfold lnOk at h
      rw [hA] at h
      simp only [Bool.and_eq_true, Bool.not_true, Bool.false_or] at h
      exact h.2
    obtain ⟨k1, k2, k3, k4, k5⟩ := I.Ix.ok_parts h4
    have k6 : I.Ix.uI x.op = true := by simpa using k5
    unfold I.Ix.insnOk
    rw [k1, k2, k3, k4, k6]
    simp
theorem want_dec (self : List UInt8) (own other : Int) (l : List Ln) (x : Ln) (hf : lnFits x) (h : lnOk x = true) : I.decV (tx (wantB self own other l x)) = inV x.op x.d x.a x.b (wantI self own other l x) ∧ I.decE (tx (wantB self own other l x)) = 0 := by
  obtain ⟨f1, ⟨h0, h1⟩, ⟨d0, d1⟩, ⟨a0, a1⟩, ⟨b0, b1⟩, hi, f7, f8⟩ := hf
  obtain ⟨i0, i1⟩ := wantI_range self own other l x hi
  obtain ⟨k0, k1, k2, k3, k4, k5⟩ := I.Ix.dec_bytes h0 h1 d0 a0 b0 b1 i0 i1 (want_ok self own other l x h)
  have e : I.bt (tx (wantB self own other l x)) = I.Ix.bytes x.op x.d x.a x.b (wantI self own other l x) := rfl
  unfold I.decV I.decE I.Ix.pick I.Ix.decE inV
  rw [e, if_pos k0, if_pos k0, if_pos k0, if_pos k0, if_pos k0, if_pos k0, k1, k2, k3, k4, k5]
  exact ⟨rfl, rfl⟩
/-- The line with that label is the one that is found. -/
theorem lbl_one {l : List Ln} (h : ∀ k, k < l.length → lblOk l k = true) {k : Nat} (hk : k < l.length) {s : List UInt8} (hs : s ≠ []) (e : (l.getD k Ln.nought).label = s) : findL l s = some k := by
  have h1 := h k hk
  unfold lblOk at h1
  rw [e, decide_eq_false hs, Bool.false_or, decide_eq_true_eq] at h1
  exact h1
/-- The places lie within the bytes. -/
theorem relsL_in {nm : List UInt8} {l : List Ln} : ∀ k, k ≤ l.length → ∀ x ∈ relsL nm l k, x.kind = 1 ∧ 0 ≤ x.off ∧ x.off + 4 ≤ 8 * (k : Int)
  | 0, _, x, hx => by cases hx
  | k + 1, hk, x, hx => by
    rw [relsL, List.mem_append] at hx
    rcases hx with hx | hx
    · obtain ⟨h1, h2, h3⟩ := relsL_in k (by omega) x hx
      exact ⟨h1, h2, by omega⟩
    · unfold relsAt at hx
      rw [List.mem_append] at hx
      rcases hx with hx | hx
      all_goals
        split at hx
        · rw [List.mem_singleton] at hx
          subst hx
          exact ⟨rfl, by simp only; omega, by simp only; omega⟩
        · cases hx
theorem put4_length (b : List UInt8) (off v : Nat) (h : off + 4 ≤ b.length) : (put4 b off v).length = b.length := by
  unfold put4
  rw [List.length_append, List.length_append, List.length_take, List.length_drop, I.Wd.le_length]
  omega
theorem flat8_get {f : Ln → List UInt8} (hf : ∀ x, (f x).length = 8) : ∀ (l : List Ln) (k : Nat), k < l.length → (((l.map f).flatten).drop (8 * k)).take 8 = f (l.getD k Ln.nought)
  | [], k, h => absurd h (Nat.not_lt_zero k)
  | x :: l, 0, _ => by
    rw [List.map_cons, List.flatten_cons, Nat.mul_zero, List.drop_zero, List.take_append_of_le_length (by rw [hf x]; exact Nat.le_refl _), List.take_of_length_le (by rw [hf x]; exact Nat.le_refl _)]
    rfl
  | x :: l, k + 1, h => by
    have h2 : k < l.length := by simpa using h
    rw [List.map_cons, List.flatten_cons, show 8 * (k + 1) = 8 + 8 * k by omega, ← List.drop_drop, List.drop_left' (hf x)]
    exact flat8_get hf l k h2
/-- What stands at a line's place, once all is filled. -/
theorem filled_at (self : List UInt8) (own other : Int) (l : List Ln) (hok : ∀ k, k < l.length → lnOk (l.getD k Ln.nought) = true) (k : Nat) (hk : k < l.length) :
    (((relsL self l l.length).foldl (fillR self own other) (bytesL l)).drop (8 * k)).take 8 = wantB self own other l (l.getD k Ln.nought) := by
  rw [fill_all self own other l hok]
  exact flat8_get (wantB_length self own other l) l k hk
end Go.Proofs.YtlnnhgmkibjgmaaDoor
