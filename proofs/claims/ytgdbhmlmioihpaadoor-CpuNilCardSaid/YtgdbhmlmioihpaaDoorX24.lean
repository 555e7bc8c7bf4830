/- The document's own Unmap: the same as the program's; how a list of pages is renewed. -/
import Derived.Test.YtgdbhmlmioihpaaDoorX15
import Derived.Test.YtgdbhmlmioihpaaDoorX02
set_option linter.unusedVariables false
namespace Go.Proofs.YtgdbhmlmioihpaaDoor
open Go.RowKit Go.Maps

theorem PageAt.keep {w w' : World} {B : Nat} {e : RP} {f : Pg} (h : PageAt w B e f) (hk : ∀ j t cs, Blk w j t cs → (t = 101 ∨ t = 5) → Blk w' j t cs) : PageAt w' B e f :=
  ⟨h.lt, hk _ _ _ h.head (.inl rfl), hk _ _ _ h.bytes (.inr rfl), h.low⟩
theorem PageAt.below {w w' : World} {B : Nat} {e : RP} {f : Pg} (h : PageAt w B e f) (hb : Below w.heap.size w w') : PageAt w' B e f := h.keep fun j t cs h1 _ => h1.below hb h1.lt
/-- What is no row of pointers stays, when such a row grows. -/
theorem own_keep {w w' : World} {base n : Nat} {z : Value} {xs : List Value} (ho : w.ownsRow base 97 1 z n xs) (hg : w.grownBy w' z.ownBlock) {j : Nat} {t : TypeId} {cs : List Value} (hb : Blk w j t cs) (ht : t ≠ 97) : Blk w' j t cs := by
  refine hb.grown hg ?_
  rcases ho.2 with ⟨rfl, _⟩ | ⟨k, cap, cur, rfl, _, h3, _⟩
  · intro he; cases he
  · intro he
    cases he
    unfold Blk at hb
    rw [h3] at hb
    injection hb with hb
    injection hb with _ hb
    exact ht hb.symm
/-- A row of one's own as a list of pages. -/
theorem PAt.of_own {w : World} {base : Nat} {v : Value} {L : List RP} (h : w.ownsRow base 97 1 v L.length (L.map ptrP)) : ∃ a c, v = .slice a L.length c ∧ PAt w a L := by
  rcases h.2 with ⟨h1, h2⟩ | ⟨g, cap, cur, h1, h2, h3, h4, h5, h6, h7⟩
  · exact ⟨none, 0, by rw [h1, h2], .inl (List.eq_nil_of_length_eq_zero h2)⟩
  · refine ⟨_, cap, h1, .inr ⟨g, cur.toList.drop (L.length * 1), rfl, ?_⟩⟩
    have : (L.map ptrP ++ cur.toList.drop (L.length * 1)).toArray = cur := by
      have e : L.map ptrP = cur.toList.take (L.length * 1) := by rw [h7]
      rw [e, List.take_append_drop]
    unfold Blk
    rw [this]
    exact h3
/-- The space's row becomes another one. -/
theorem RefP.renew {w : World} {B g c : Nat} {a : Option Addr} {L : List RP} {A : As} {x : Value} (hg : Blk w g 79 [x]) (gB : B ≤ g) (row : PAt w a L) (up : (L.map (·.i)).Pairwise (· < ·)) (has : ∀ i, (A i).isSome = true → i ∈ L.map (·.i))
    (page : ∀ e, e ∈ L → ∃ f, A e.i = some f ∧ PageAt w B e f) (apart : (L.map (·.q)).Nodup) : RefP (w.setCell ⟨g, 0, none⟩ (.slice a L.length c)) B g a c L A ∧ RTurn B w (w.setCell ⟨g, 0, none⟩ (.slice a L.length c)) := by
  have hfar : ∀ j t cs, Blk w j t cs → t ≠ 79 → Blk (w.setCell ⟨g, 0, none⟩ (.slice a L.length c)) j t cs := fun j t cs hb ht => hb.far (p := ⟨g, 0, none⟩) (hb.ne hg ht) _
  refine ⟨⟨gB, hg.set_ 0 _, ?_, up, has, fun e he => ?_, apart⟩, rfl, rfl, rfl, by simp, fun j hj hc => Below.heap_setCell w ⟨g, 0, none⟩ _ j ?_⟩
  · rcases row with h1 | ⟨k, R, h1, h2⟩
    · exact .inl h1
    · exact .inr ⟨k, R, h1, hfar _ _ _ h2 (by decide)⟩
  · obtain ⟨f, h1, h2⟩ := page e he
    exact ⟨f, h1, h2.keep fun j t cs hb ht => hfar j t cs hb (by rcases ht with rfl | rfl <;> decide)⟩
  · intro hjq
    have hjq : j = g := hjq
    rw [hjq] at hc
    unfold Blk at hg
    have h9 : g < B := hc _ _ _ hg (.inl rfl)
    omega
theorem appP_below {B n : Nat} {l : List Value} {v : Value} {w wr w1 : World} (hb : Below B w wr) (hB : B ≤ wr.heap.size) {wx : World} (hx : Below wr.heap.size wr wx) (hown : wr.ownsRow B 97 1 v n l) (hg : wx.grownBy w1 v.ownBlock) : Below B w w1 :=
  (hb.trans (hx.mono hB)).grown hg (Nat.le_trans hB hx.size) (fun k hk => (hown.lt k hk).1)
end Go.Proofs.YtgdbhmlmioihpaaDoor
