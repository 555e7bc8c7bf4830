/- A copy of the document's own space: what stands behind each page. -/
import Derived.Test.YtfickpjecehboaaEG
set_option linter.unusedVariables false
namespace Go.Proofs.Ytfickpjecehboaa
open Go.RowKit Go.Maps

structure CInv (w wr : World) (W0 g' : Nat) (L : List RP) (A : As) (i : Nat) (z : Value) (K : List RP) : Prop where
  low : Below W0 w wr
  head : Blk wr g' 31 [z]
  own : wr.ownsRow W0 66 1 z i (K.map ptrP)
  len : K.length = i
  num : K.map (·.i) = (L.take i).map (·.i)
  page : ∀ e, e ∈ K → ∃ f, A e.i = some f ∧ PageAt wr W0 e f
  apart : (K.map (·.q)).Nodup

theorem CInv.drew {w wr : World} {W0 g' i : Nat} {L K : List RP} {A : As} {z : Value} (h : CInv w wr W0 g' L A i z K) : CInv w wr.drew W0 g' L A i z K :=
  ⟨h.low.drew, h.head, h.own, h.len, h.num, fun e he => by obtain ⟨f, h1, h2⟩ := h.page e he; exact ⟨f, h1, h2.lt, h2.head, h2.bytes, h2.low⟩, h.apart⟩

/-- Bytes of one's own. -/
theorem own_bytes {w : World} {base q c : Nat} {f : Pg} (h : w.ownsRow base 5 1 (.slice (some ⟨q, 0, none⟩) 256 c) 256 (bcs f)) : base ≤ q ∧ ∃ R, Blk w q 5 (bcs f ++ R) := by
  rcases h.2 with ⟨h1, _⟩ | ⟨g, cap, cur, h1, h2, h3, h4, h5, h6, h7⟩
  · cases h1
  · injection h1 with h1 _ _
    injection h1 with h1
    injection h1 with h1 _ _
    subst h1
    obtain ⟨R, hR⟩ : ∃ R, R = cur.toList.drop (256 * 1) := ⟨_, rfl⟩
    refine ⟨h2, R, ?_⟩
    have : (bcs f ++ R).toArray = cur := by rw [← h7, hR, List.take_append_drop]
    unfold Blk
    rw [this]
    exact h3

theorem CInv.step {w wq wa wd : World} {W0 g' i q' c' : Nat} {L K : List RP} {A : As} {z v : Value} {e : RP} {f : Pg} (h : CInv w wq W0 g' L A i z K) (hW : W0 ≤ wq.heap.size) (hg' : W0 ≤ g') (hi : i < L.length) (he : L.getD i RP.nought = e) (hA : A e.i = some f) (hlt : e.i < 4096)
    (h51 : wa.ownsRow wq.heap.size 5 1 (.slice (some ⟨q', 0, none⟩) 256 c') 256 (bcs f)) (g51 : wq.grownBy wa none) {ROW : Obj}
    (hown : wd.ownsRow W0 66 1 v (i + 1) (K.map ptrP ++ [.pointer (some ⟨wa.heap.size, 0, none⟩)]))
    (hgrow : ((wa.alloc (.cells #[.int .u32 (256 * (e.i : Int)), .int .u8 ((f 256).toNat : Int), .slice (some ⟨q', 0, none⟩) 256 c'] 68)).alloc ROW).grownBy wd z.ownBlock) :
    ∃ K', CInv w (wd.setCell ⟨g', 0, none⟩ v) W0 g' L A (i + 1) v K' := by
  obtain ⟨hq, R, hb⟩ := own_bytes h51
  have hOa := own_none h.own g51
  have hBa : Below W0 w wa := h.low.grown g51 hW (fun k hk => by cases hk)
  have hWa : W0 ≤ wa.heap.size := Nat.le_trans hW g51.size
  have hBd : Below W0 w wd := ((hBa.alloc hWa _).alloc (by simp; omega) _).grown hgrow (by simp; omega) (fun k hk => (hOa.lt k hk).1)
  have hkeep : ∀ j t cs, Blk wq j t cs → t ≠ 66 → Blk wd j t cs := fun j t cs h1 h2 => own_keep ((hOa.alloc _).alloc _) hgrow (((h1.grown g51 (by simp)).alloc _).alloc _) h2
  have hkeepa : ∀ j t cs, Blk wa j t cs → t ≠ 66 → Blk wd j t cs := fun j t cs h1 h2 => own_keep ((hOa.alloc _).alloc _) hgrow ((h1.alloc _).alloc _) h2
  have hg := hkeep _ _ _ h.head (by decide)
  have hfar : ∀ j t cs, Blk wd j t cs → t ≠ 31 → Blk (wd.setCell ⟨g', 0, none⟩ v) j t cs := fun j t cs hb ht => hb.far (p := ⟨g', 0, none⟩) (hb.ne hg ht) _
  obtain ⟨np, hnp⟩ : ∃ np : RP, np = ⟨e.i, wa.heap.size, q', c', R⟩ := ⟨_, rfl⟩
  have hp : PageAt (wd.setCell ⟨g', 0, none⟩ v) W0 np f := by
    rw [hnp]
    refine ⟨hlt, ?_, ?_, Nat.le_trans hW hq⟩
    · exact hfar _ _ _ (own_keep ((hOa.alloc _).alloc _) hgrow (Blk.alloc (Blk.new wa 68 [.int .u32 (256 * (e.i : Int)), .int .u8 ((f 256).toNat : Int), .slice (some ⟨q', 0, none⟩) 256 c']) _) (by decide)) (by decide)
    · exact hfar _ _ _ (hkeepa _ _ _ hb (by decide)) (by decide)
  refine ⟨K ++ [np], ⟨hBd.setCell (p := ⟨g', 0, none⟩) hg' _, hg.set_ 0 _, ?_, by rw [List.length_append, h.len]; rfl, ?_, ?_, ?_⟩⟩
  · have e1 : (K ++ [np]).map ptrP = K.map ptrP ++ [.pointer (some ⟨wa.heap.size, 0, none⟩)] := by rw [List.map_append, hnp]; rfl
    rw [e1]
    refine hown.kept (w' := wd.setCell ⟨g', 0, none⟩ v) (row := some g') ⟨rfl, rfl, rfl, by simp, fun j hj hr => Below.heap_setCell wd ⟨g', 0, none⟩ v j (by intro hjg; exact hr (by rw [hjg]))⟩ ?_
    rcases hown.2 with ⟨h1, h2⟩ | ⟨k, cap, cur, h1, h2, h3, _⟩
    · exact .inl (by rw [h1]; rfl)
    · right
      rw [h1]
      intro hk
      have hk : k = g' := by simpa [Value.ownBlock] using hk
      subst hk
      unfold Blk at hg
      rw [h3] at hg
      injection hg with hg
      injection hg with _ hg
      exact absurd hg (by decide)
  · rw [List.map_append, h.num, take_snoc L RP.nought i hi, List.map_append, he, hnp]
    rfl
  · intro y hy
    rcases List.mem_append.1 hy with hy | hy
    · obtain ⟨f2, h1, h2⟩ := h.page y hy
      exact ⟨f2, h1, h2.keep fun j t cs hb ht => hfar j t cs (hkeep j t cs hb (by rcases ht with rfl | rfl <;> decide)) (by rcases ht with rfl | rfl <;> decide)⟩
    · have : y = np := by simpa using hy
      subst this
      exact ⟨f, by rw [hnp]; exact hA, hp⟩
  · rw [List.map_append, List.nodup_append]
    refine ⟨h.apart, by simp, fun a ha b hb => ?_⟩
    obtain ⟨y, hy, rfl⟩ := List.mem_map.1 ha
    have hb' : b = q' := by rw [hnp] at hb; simpa using hb
    obtain ⟨f2, _, h2⟩ := h.page y hy
    have := h2.bytes.lt
    omega
theorem CInv.done {w wr : World} {B g c W0 g' : Nat} {a : Option Addr} {L K : List RP} {A : As} {z : Value} (h0 : RefP w B g a c L A) (hBW : B ≤ W0) (hg' : W0 ≤ g') (h : CInv w wr W0 g' L A L.length z K) : RefAt wr B g' A := by
  have hl := h.len
  have ho := h.own
  rw [← hl] at ho
  obtain ⟨a2, c2, hz, hP⟩ := PAt.of_own ho
  have hn := h.num
  rw [List.take_length] at hn
  refine ⟨a2, c2, K, Nat.le_trans hBW hg', by rw [← hz]; exact h.head, hP, by rw [hn]; exact h0.up, fun i hi => by rw [hn]; exact h0.has i hi, fun e he => ?_, h.apart⟩
  obtain ⟨f, h1, h2⟩ := h.page e he
  exact ⟨f, h1, h2.lt, h2.head, h2.bytes, Nat.le_trans hBW h2.low⟩
end Go.Proofs.Ytfickpjecehboaa
