/- Some texts of one proof, one behind the other; each has its own head below. -/
import Derived.Test.YtlnnhgmkibjgmaaDoorX15
import Derived.BigRegion
import Derived.Deep.RegionHeld3
import Derived.Laws.NewBlocks
/- Instructions as bytes: package insn's Encode, and the document's own. -/
section
set_option linter.unusedVariables false
set_option linter.unusedSimpArgs false
namespace Go.Proofs.YtlnnhgmkibjgmaaDoor.I
open Go.RowKit

def ofI (x : Int) : UInt8 := UInt8.ofNat x.toNat
theorem ofI_toNat (x : Int) (h0 : 0 ≤ x) (h1 : x < 256) : ((ofI x).toNat : Int) = x := by unfold ofI; simp; omega

/-- string([]byte{..}): a text of the bytes that were laid into a new array. -/
theorem text_new (W : World) (xs : List Int) (hx : ∀ x ∈ xs, 0 ≤ x ∧ x < 256) :
    (convert 56 9 (.slice (some ⟨W.heap.size, 0, none⟩) xs.length xs.length)).run Tryd.prog (W.alloc (.cells (xs.map (Value.int .u8)).toArray 5)) = .ok (.string ⟨(xs.map ofI).toArray⟩) (W.alloc (.cells (xs.map (Value.int .u8)).toArray 5)) := by
  have hg : (W.alloc (.cells (xs.map (Value.int .u8)).toArray 5)).heap[W.heap.size]? = some (.cells (xs.map (Value.int .u8)).toArray 5 (0, 0)) := heap_alloc_new W _
  have hl : (xs.map ofI).length = xs.length := by simp
  have e : Lib.byteCells (xs.map ofI) = xs.map (Value.int .u8) := by
    unfold Lib.byteCells
    rw [List.map_map]
    apply List.map_congr_left
    intro x h
    obtain ⟨h0, h1⟩ := hx x h
    show Value.int .u8 ((ofI x).toNat : Int) = _
    rw [ofI_toNat x h0 h1]
  have := run_convert_bytes_back (P := Tryd.prog) (W.alloc (.cells (xs.map (Value.int .u8)).toArray 5)) 56 9 5 ⟨W.heap.size, 0, none⟩ xs.length (xs.map ofI) Tryd.underlying56 Tryd.underlying5 Tryd.underlying9 (Lib.bytes_of_row hg (by rw [e, hl, List.take_of_length_le (by simp)]))
  rw [hl] at this
  exact this
theorem text4 (W : World) (x y z u : Int) (x0 : 0 ≤ x) (x1 : x < 256) (y0 : 0 ≤ y) (y1 : y < 256) (z0 : 0 ≤ z) (z1 : z < 256) (u0 : 0 ≤ u) (u1 : u < 256) :
    (convert 56 9 (.slice (some ⟨W.heap.size, 0, none⟩) 4 4)).run Tryd.prog (W.alloc (.cells #[.int .u8 x, .int .u8 y, .int .u8 z, .int .u8 u] 5)) = .ok (.string ⟨#[ofI x, ofI y, ofI z, ofI u]⟩) (W.alloc (.cells #[.int .u8 x, .int .u8 y, .int .u8 z, .int .u8 u] 5)) :=
  text_new W [x, y, z, u] (by simp; omega)

/-- The bytes of an instruction, as a text; none where it may not be. -/
def encS (op d a b im : Int) : ByteArray := ⟨(Ix.enc op d a b im).toArray⟩

section
variable (op d a b im : Int) (h0 : 0 ≤ op) (h1 : op < 256) (d0 : 0 ≤ d) (d1 : d < 256) (a0 : 0 ≤ a) (a1 : a < 256) (b0 : 0 ≤ b) (b1 : b < 256) (i0 : 0 ≤ im) (i1 : im < 4294967296)

theorem encS_yes (h : Ix.insnOk op d a b im = true) : (⟨#[ofI op, ofI (d + 16 * a), ofI b, ofI 0]⟩ ++ (⟨(Wd.le im.toNat 4).toArray⟩ : ByteArray)) = encS op d a b im := by
  unfold encS
  rw [Ix.enc_of_ok h]
  have : ∀ (x y : List UInt8), (⟨x.toArray⟩ ++ ⟨y.toArray⟩ : ByteArray) = ⟨(x ++ y).toArray⟩ := by
    intro x y
    apply ByteArray.ext
    rw [ByteArray.data_append]
    simp
  exact this [ofI op, ofI (d + 16 * a), ofI b, ofI 0] (Wd.le im.toNat 4)
theorem encS_no (h : Ix.insnOk op d a b im = false) : encS op d a b im = ⟨#[]⟩ := by
  unfold encS
  rw [Ix.enc_of_no h]
theorem errI_yes (h : Ix.insnOk op d a b im = true) : errI op d a b im = 0 := by unfold errI Ix.err; rw [if_pos h]
theorem errI_no (h : Ix.insnOk op d a b im = false) : errI op d a b im = 2 := by unfold errI Ix.err; rw [h]; rfl

/-! the document's Encode -/
set_option maxHeartbeats 1000000 in
set_option maxRecDepth 100000 in
theorem rencode_no (w : World) (HM : Hid (∀ w', Calls Tryd.prog 59 #[.agg #[.int .u8 op, .int .u8 d, .int .u8 a, .int .u8 b, .int .u32 im]] w' fun e w'' => e = .returned (.bool false) ∧ Below w'.heap.size w' w'')) :
    Calls Tryd.prog 38 #[.agg #[.int .u8 op, .int .u8 d, .int .u8 a, .int .u8 b, .int .u32 im]] w fun e w' => e = .returned (.tuple #[.string ⟨#[]⟩, .int .i64 2]) ∧ Below w.heap.size w w' := by
  have hb : Below w.heap.size w (w.alloc (.cells #[.int .u8 op, .int .u8 d, .int .u8 a, .int .u8 b, .int .u32 im] 40)) := (Below.refl _ _).alloc (Nat.le_refl _) _
  go_enter Tryd.func38, Tryd.ntmps38
  go_wp2_with fail
  refine (HM.out _).mono ?_; rintro e w1 ⟨rfl, q⟩
  replace hb := hb.trans (q.mono hb.size); clear q
  go_wp2
  go_ret2
  exact ⟨rfl, hb⟩

theorem cell_lt {w : World} {g o : Nat} {v : Value} (h : w.cell? ⟨g, o, none⟩ = some v) : g < w.heap.size := by
  rcases Nat.lt_or_ge g w.heap.size with h' | h'
  · exact h'
  · simp [World.cell?, Array.getElem?_eq_none h'] at h
theorem cell_alloc {w : World} {g o : Nat} {v : Value} (h : w.cell? ⟨g, o, none⟩ = some v) (X : Obj) : (w.alloc X).cell? ⟨g, o, none⟩ = some v := by
  rw [World.cell?_alloc_past _ _ _ (cell_lt h)]; exact h
theorem cell_below {w w' : World} {B g o : Nat} {v : Value} (h : w.cell? ⟨g, o, none⟩ = some v) (hb : Below B w w') (hg : g < B) : w'.cell? ⟨g, o, none⟩ = some v := (hb.cell (p := ⟨g, o, none⟩) hg).trans h
theorem text4_below {W w' : World} {x y z u : Int} (x0 : 0 ≤ x) (x1 : x < 256) (y0 : 0 ≤ y) (y1 : y < 256) (z0 : 0 ≤ z) (z1 : z < 256) (u0 : 0 ≤ u) (u1 : u < 256)
    (hb : Below (W.alloc (.cells #[.int .u8 x, .int .u8 y, .int .u8 z, .int .u8 u] 5)).heap.size (W.alloc (.cells #[.int .u8 x, .int .u8 y, .int .u8 z, .int .u8 u] 5)) w') :
    (convert 56 9 (.slice (some ⟨W.heap.size, 0, none⟩) 4 4)).run Tryd.prog w' = .ok (.string ⟨#[ofI x, ofI y, ofI z, ofI u]⟩) w' := by
  have hg : w'.heap[W.heap.size]? = some (.cells #[.int .u8 x, .int .u8 y, .int .u8 z, .int .u8 u] 5 (0, 0)) := by
    rw [hb.block W.heap.size (by simp)]; exact heap_alloc_new W _
  have := run_convert_bytes_back (P := Tryd.prog) w' 56 9 5 ⟨W.heap.size, 0, none⟩ 4 [ofI x, ofI y, ofI z, ofI u] Tryd.underlying56 Tryd.underlying5 Tryd.underlying9 (Lib.bytes_of_row hg (by simp [Lib.byteCells, ofI_toNat, *]))
  exact this
theorem text4_belowd {W w' : World} {x y z u : Int} (x0 : 0 ≤ x) (x1 : x < 256) (y0 : 0 ≤ y) (y1 : y < 256) (z0 : 0 ≤ z) (z1 : z < 256) (u0 : 0 ≤ u) (u1 : u < 256)
    (hb : Below (W.alloc (.cells #[.int .u8 x, .int .u8 y, .int .u8 z, .int .u8 u] 5)).drew.heap.size (W.alloc (.cells #[.int .u8 x, .int .u8 y, .int .u8 z, .int .u8 u] 5)).drew w') :
    (convert 56 9 (.slice (some ⟨W.heap.size, 0, none⟩) 4 4)).run Tryd.prog w' = .ok (.string ⟨#[ofI x, ofI y, ofI z, ofI u]⟩) w' :=
  text4_below (W := W.drew) x0 x1 y0 y1 z0 z1 u0 u1 hb

abbrev Box5 (g : Nat) (op d a b im : Int) (w : World) : Prop := w.cell? ⟨g, 0, none⟩ = some (.int .u8 op) ∧ w.cell? ⟨g, 1, none⟩ = some (.int .u8 d) ∧ w.cell? ⟨g, 2, none⟩ = some (.int .u8 a) ∧ w.cell? ⟨g, 3, none⟩ = some (.int .u8 b) ∧ w.cell? ⟨g, 4, none⟩ = some (.int .u32 im)
theorem Box5.new (w : World) : Box5 w.heap.size op d a b im (w.alloc (.cells #[.int .u8 op, .int .u8 d, .int .u8 a, .int .u8 b, .int .u32 im] 40)) := ⟨by simp [go_sem], by simp [go_sem], by simp [go_sem], by simp [go_sem], by simp [go_sem]⟩
theorem Box5.alloc {op d a b im : Int} {g : Nat} {w : World} (h : Box5 g op d a b im w) (X : Obj) : Box5 g op d a b im (w.alloc X) := ⟨cell_alloc h.1 X, cell_alloc h.2.1 X, cell_alloc h.2.2.1 X, cell_alloc h.2.2.2.1 X, cell_alloc h.2.2.2.2 X⟩
theorem Box5.below {op d a b im : Int} {g B : Nat} {w w' : World} (h : Box5 g op d a b im w) (hb : Below B w w') (hg : g < B) : Box5 g op d a b im w' := ⟨cell_below h.1 hb hg, cell_below h.2.1 hb hg, cell_below h.2.2.1 hb hg, cell_below h.2.2.2.1 hb hg, cell_below h.2.2.2.2 hb hg⟩
theorem Box5.same {op d a b im : Int} {g : Nat} {w w' : World} (h : Box5 g op d a b im w) (hb : Below w.heap.size w w') : Box5 g op d a b im w' := h.below hb (cell_lt h.1)

include h0 h1 d0 a0 b0 b1 in
set_option maxHeartbeats 4000000 in
set_option maxRecDepth 100000 in
theorem rencode_yes (hd : d < 16) (ha : a < 16) (w : World) (HM : Hid (∀ w', Calls Tryd.prog 59 #[.agg #[.int .u8 op, .int .u8 d, .int .u8 a, .int .u8 b, .int .u32 im]] w' fun e w'' => e = .returned (.bool true) ∧ Below w'.heap.size w' w''))
    (t : ByteArray) (ht : (t.size : Int) ≤ 4) (HP : Hid (∀ w, Calls Tryd.prog 60 #[.int .u32 im, .int .i64 4] w fun e w' => e = .returned (.string t) ∧ Below w.heap.size w w')) :
    Calls Tryd.prog 38 #[.agg #[.int .u8 op, .int .u8 d, .int .u8 a, .int .u8 b, .int .u32 im]] w fun e w' => e = .returned (.tuple #[.string (⟨#[ofI op, ofI (d + 16 * a), ofI b, ofI 0]⟩ ++ t), .int .i64 0]) ∧ Below w.heap.size w w' := by
  have hb : Below w.heap.size w (w.alloc (.cells #[.int .u8 op, .int .u8 d, .int .u8 a, .int .u8 b, .int .u32 im] 40)) := (Below.refl _ _).alloc (Nat.le_refl _) _
  have hB5 := Box5.new op d a b im w
  have k1 : (0 : Int) ≤ d + 16 * a := by omega
  have k2 : d + 16 * a < 256 := by omega
  have HT := Lib.hid (fun W => text4 W op (d + 16 * a) b 0 h0 h1 k1 k2 b0 b1 (by omega) (by omega))
  go_enter Tryd.func38, Tryd.ntmps38
  go_wp2_with fail
  refine (HM.out _).mono ?_; rintro e w1 ⟨rfl, q⟩
  replace hB5 := hB5.same q
  replace hb := hb.trans (q.mono hb.size)
  clear q HM
  go_wp2_with fail
  have HB := Lib.hid hb
  have H5 := Lib.hid hB5
  obtain ⟨e0, e1, e2, e3, e4⟩ := hB5
  have wm : IntKind.u8.wrap (16 * a) = 16 * a := by rw [IntKind.wrap_u8']; omega
  have wp : IntKind.u8.wrap (d + 16 * a) = d + 16 * a := by rw [IntKind.wrap_u8']; omega
  have conv := HT.out
  have convd : ∀ W : World, (convert 56 9 (.slice (some ⟨W.heap.size, 0, none⟩) 4 4)).run Tryd.prog (W.alloc (.cells #[.int .u8 op, .int .u8 (d + 16 * a), .int .u8 b, .int .u8 0] 5)).drew = .ok (.string ⟨#[ofI op, ofI (d + 16 * a), ofI b, ofI 0]⟩) (W.alloc (.cells #[.int .u8 op, .int .u8 (d + 16 * a), .int .u8 b, .int .u8 0] 5)).drew := fun W => HT.out W.drew
  clear hb HT
  refine wp_region_held_drew (S := fun w' => w'.cell? ⟨w.heap.size, 0, none⟩ = some (.int .u8 op) ∧ w'.cell? ⟨w.heap.size, 1, none⟩ = some (.int .u8 d) ∧ w'.cell? ⟨w.heap.size, 2, none⟩ = some (.int .u8 a) ∧ w'.cell? ⟨w.heap.size, 3, none⟩ = some (.int .u8 b) ∧ w'.cell? ⟨w.heap.size, 4, none⟩ = some (.int .u32 im)) (by kernel_rfl) H5.out (fun hHeld => ?_)
  refine wpAnyH_take (i := 0) (v := .pointer (some ⟨w.heap.size, 0, none⟩)) rfl (by kernel_rfl) (by kernel_rfl) (by kernel_rfl) (fun _ _ _ h => h) (Or.inl ⟨by rfl, fun w hSw => by (try dsimp only at hSw); go_simp⟩) (by assumption) ?_
  try simp only [Act.put, List.setIfInBounds_toArray, List.set_cons_zero, List.set_cons_succ, List.getElem_toArray, List.getElem_cons_succ, List.getElem_cons_zero]
  refine wpAnyH_take (i := 1) (v := .int .u8 op) rfl (by kernel_rfl) (by kernel_rfl) (by kernel_rfl) (fun _ _ _ h => h) (Or.inl ⟨by rfl, fun w hSw => by (try dsimp only at hSw); go_simp⟩) (by assumption) ?_
  try simp only [Act.put, List.setIfInBounds_toArray, List.set_cons_zero, List.set_cons_succ, List.getElem_toArray, List.getElem_cons_succ, List.getElem_cons_zero]
  refine wpAnyH_take (i := 2) (v := .pointer (some ⟨w.heap.size, 1, none⟩)) rfl (by kernel_rfl) (by kernel_rfl) (by kernel_rfl) (fun _ _ _ h => h) (Or.inl ⟨by rfl, fun w hSw => by (try dsimp only at hSw); go_simp⟩) (by assumption) ?_
  try simp only [Act.put, List.setIfInBounds_toArray, List.set_cons_zero, List.set_cons_succ, List.getElem_toArray, List.getElem_cons_succ, List.getElem_cons_zero]
  refine wpAnyH_take (i := 3) (v := .int .u8 d) rfl (by kernel_rfl) (by kernel_rfl) (by kernel_rfl) (fun _ _ _ h => h) (Or.inl ⟨by rfl, fun w hSw => by (try dsimp only at hSw); go_simp⟩) (by assumption) ?_
  try simp only [Act.put, List.setIfInBounds_toArray, List.set_cons_zero, List.set_cons_succ, List.getElem_toArray, List.getElem_cons_succ, List.getElem_cons_zero]
  refine wpAnyH_take (i := 4) (v := .pointer (some ⟨w.heap.size, 2, none⟩)) rfl (by kernel_rfl) (by kernel_rfl) (by kernel_rfl) (fun _ _ _ h => h) (Or.inl ⟨by rfl, fun w hSw => by (try dsimp only at hSw); go_simp⟩) (by assumption) ?_
  try simp only [Act.put, List.setIfInBounds_toArray, List.set_cons_zero, List.set_cons_succ, List.getElem_toArray, List.getElem_cons_succ, List.getElem_cons_zero]
  refine wpAnyH_take (i := 5) (v := .int .u8 a) rfl (by kernel_rfl) (by kernel_rfl) (by kernel_rfl) (fun _ _ _ h => h) (Or.inl ⟨by rfl, fun w hSw => by (try dsimp only at hSw); go_simp⟩) (by assumption) ?_
  try simp only [Act.put, List.setIfInBounds_toArray, List.set_cons_zero, List.set_cons_succ, List.getElem_toArray, List.getElem_cons_succ, List.getElem_cons_zero]
  refine wpAnyH_take (i := 6) (v := .int .u8 (16 * a)) rfl (by kernel_rfl) (by kernel_rfl) (by kernel_rfl) (fun _ _ _ h => h) (Or.inl ⟨by rfl, fun w hSw => by (try dsimp only at hSw); go_simp⟩) (by assumption) ?_
  try simp only [Act.put, List.setIfInBounds_toArray, List.set_cons_zero, List.set_cons_succ, List.getElem_toArray, List.getElem_cons_succ, List.getElem_cons_zero]
  refine wpAnyH_take (i := 7) (v := .int .u8 (d + 16 * a)) rfl (by kernel_rfl) (by kernel_rfl) (by kernel_rfl) (fun _ _ _ h => h) (Or.inl ⟨by rfl, fun w hSw => by (try dsimp only at hSw); go_simp⟩) (by assumption) ?_
  try simp only [Act.put, List.setIfInBounds_toArray, List.set_cons_zero, List.set_cons_succ, List.getElem_toArray, List.getElem_cons_succ, List.getElem_cons_zero]
  refine wpAnyH_take (i := 8) (v := .pointer (some ⟨w.heap.size, 3, none⟩)) rfl (by kernel_rfl) (by kernel_rfl) (by kernel_rfl) (fun _ _ _ h => h) (Or.inl ⟨by rfl, fun w hSw => by (try dsimp only at hSw); go_simp⟩) (by assumption) ?_
  try simp only [Act.put, List.setIfInBounds_toArray, List.set_cons_zero, List.set_cons_succ, List.getElem_toArray, List.getElem_cons_succ, List.getElem_cons_zero]
  refine wpAnyH_take (i := 9) (v := .int .u8 b) rfl (by kernel_rfl) (by kernel_rfl) (by kernel_rfl) (fun _ _ _ h => h) (Or.inl ⟨by rfl, fun w hSw => by (try dsimp only at hSw); go_simp⟩) (by assumption) ?_
  try simp only [Act.put, List.setIfInBounds_toArray, List.set_cons_zero, List.set_cons_succ, List.getElem_toArray, List.getElem_cons_succ, List.getElem_cons_zero]
  refine wpAnyH_take (i := 12) (v := .pointer (some ⟨w.heap.size, 4, none⟩)) rfl (by kernel_rfl) (by kernel_rfl) (by kernel_rfl) (fun _ _ _ h => h) (Or.inl ⟨by rfl, fun w hSw => by (try dsimp only at hSw); go_simp⟩) (by assumption) ?_
  try simp only [Act.put, List.setIfInBounds_toArray, List.set_cons_zero, List.set_cons_succ, List.getElem_toArray, List.getElem_cons_succ, List.getElem_cons_zero]
  refine wpAnyH_take (i := 13) (v := .int .u32 im) rfl (by kernel_rfl) (by kernel_rfl) (by kernel_rfl) (fun _ _ _ h => h) (Or.inl ⟨by rfl, fun w hSw => by (try dsimp only at hSw); go_simp⟩) (by assumption) ?_
  try simp only [Act.put, List.setIfInBounds_toArray, List.set_cons_zero, List.set_cons_succ, List.getElem_toArray, List.getElem_cons_succ, List.getElem_cons_zero]
  refine wpAnyH_ready (rs := [10, 14]) (by kernel_rfl) (by simp) ?_
  refine AllReadyH.cons (o := _) rfl (fun K hK => ?_) (AllReadyH.cons (o := _) rfl (fun K hK => ?_) AllReadyH.nil)
  · go_simp
    refine hK.out _ _ (Box5.alloc H5.out _) (fun hHeld2 => ?_)
    clear hK K
    try simp only [Act.put, List.setIfInBounds_toArray, List.set_cons_zero, List.set_cons_succ, List.getElem_toArray, List.getElem_cons_succ, List.getElem_cons_zero]
    refine wpAnyH_ready (rs := [11, 14]) (by kernel_rfl) (by simp) ?_
    refine AllReadyH.cons (o := _) rfl (fun K hK => ?_) (AllReadyH.cons (o := _) rfl (fun K hK => ?_) AllReadyH.nil)
    · go_simp
      refine hK.out _ _ (Box5.alloc H5.out _) (fun hHeld2 => ?_)
      clear hK K
      try simp only [Act.put, List.setIfInBounds_toArray, List.set_cons_zero, List.set_cons_succ, List.getElem_toArray, List.getElem_cons_succ, List.getElem_cons_zero]
      refine wpAnyH_ready (rs := [14]) (by kernel_rfl) (by simp) ?_
      refine AllReadyH.cons (o := _) rfl (fun K hK => ?_) AllReadyH.nil
      go_simp
      refine (HP.out _).mono ?_
      rintro e w3 ⟨rfl, q3⟩
      have S3 := Lib.hid (Box5.same (w := (w1.alloc _).drew) (Box5.alloc H5.out _) q3)
      go_wp2_with fail
      refine hK.out _ _ (S3.out) (fun hHeld2 => ?_)
      clear hK K
      try simp only [Act.put, List.setIfInBounds_toArray, List.set_cons_zero, List.set_cons_succ, List.getElem_toArray, List.getElem_cons_succ, List.getElem_cons_zero]
      refine wpAnyH_take (i := 15) (v := .string (⟨#[ofI op, ofI (d + 16 * a), ofI b, ofI 0]⟩ ++ t)) rfl (by kernel_rfl) (by kernel_rfl) (by kernel_rfl) (fun _ _ _ h => h) (Or.inl ⟨by rfl, fun w hSw => by clear hSw; go_simp; omega⟩) (by assumption) ?_
      try simp only [Act.put, List.setIfInBounds_toArray, List.set_cons_zero, List.set_cons_succ, List.getElem_toArray, List.getElem_cons_succ, List.getElem_cons_zero]
      refine wpAnyH_take (i := 16) (v := .string (⟨#[ofI op, ofI (d + 16 * a), ofI b, ofI 0]⟩ ++ t)) rfl (by kernel_rfl) (by kernel_rfl) (by kernel_rfl) (fun _ _ _ h => h) (Or.inl ⟨by rfl, fun w hSw => by (try dsimp only at hSw); go_simp⟩) (by assumption) ?_
      try simp only [Act.put, List.setIfInBounds_toArray, List.set_cons_zero, List.set_cons_succ, List.getElem_toArray, List.getElem_cons_succ, List.getElem_cons_zero]
      refine wpAnyH_take (i := 17) (v := .int .i64 0) rfl (by kernel_rfl) (by kernel_rfl) (by kernel_rfl) (fun _ _ _ h => h) (Or.inl ⟨by rfl, fun w hSw => by (try dsimp only at hSw); go_simp⟩) (by assumption) ?_
      try simp only [Act.put, List.setIfInBounds_toArray, List.set_cons_zero, List.set_cons_succ, List.getElem_toArray, List.getElem_cons_succ, List.getElem_cons_zero]
      refine wpAnyH_done (by kernel_rfl) ?_ _
      go_wp2
      go_ret2
      exact ⟨rfl, (HB.out.drew.alloc HB.out.size _).trans (q3.mono (Nat.le_trans HB.out.size (by simp)))⟩
    · go_simp
      refine (HP.out _).mono ?_
      rintro e w3 ⟨rfl, q3⟩
      have S3 := Lib.hid (Box5.same (w := (w1.alloc _).drew) (Box5.alloc H5.out _) q3)
      have conv3 := text4_belowd h0 h1 k1 k2 b0 b1 (by omega) (by omega) q3
      go_wp2_with fail
      refine hK.out _ _ (S3.out) (fun hHeld2 => ?_)
      clear hK K
      try simp only [Act.put, List.setIfInBounds_toArray, List.set_cons_zero, List.set_cons_succ, List.getElem_toArray, List.getElem_cons_succ, List.getElem_cons_zero]
      refine wpAnyH_ready (rs := [11]) (by kernel_rfl) (by simp) ?_
      refine AllReadyH.cons (o := _) rfl (fun K hK => ?_) AllReadyH.nil
      go_simp
      refine hK.out _ _ (S3.out) (fun hHeld2 => ?_)
      clear hK K
      try simp only [Act.put, List.setIfInBounds_toArray, List.set_cons_zero, List.set_cons_succ, List.getElem_toArray, List.getElem_cons_succ, List.getElem_cons_zero]
      refine wpAnyH_take (i := 15) (v := .string (⟨#[ofI op, ofI (d + 16 * a), ofI b, ofI 0]⟩ ++ t)) rfl (by kernel_rfl) (by kernel_rfl) (by kernel_rfl) (fun _ _ _ h => h) (Or.inl ⟨by rfl, fun w hSw => by clear hSw; go_simp; omega⟩) (by assumption) ?_
      try simp only [Act.put, List.setIfInBounds_toArray, List.set_cons_zero, List.set_cons_succ, List.getElem_toArray, List.getElem_cons_succ, List.getElem_cons_zero]
      refine wpAnyH_take (i := 16) (v := .string (⟨#[ofI op, ofI (d + 16 * a), ofI b, ofI 0]⟩ ++ t)) rfl (by kernel_rfl) (by kernel_rfl) (by kernel_rfl) (fun _ _ _ h => h) (Or.inl ⟨by rfl, fun w hSw => by (try dsimp only at hSw); go_simp⟩) (by assumption) ?_
      try simp only [Act.put, List.setIfInBounds_toArray, List.set_cons_zero, List.set_cons_succ, List.getElem_toArray, List.getElem_cons_succ, List.getElem_cons_zero]
      refine wpAnyH_take (i := 17) (v := .int .i64 0) rfl (by kernel_rfl) (by kernel_rfl) (by kernel_rfl) (fun _ _ _ h => h) (Or.inl ⟨by rfl, fun w hSw => by (try dsimp only at hSw); go_simp⟩) (by assumption) ?_
      try simp only [Act.put, List.setIfInBounds_toArray, List.set_cons_zero, List.set_cons_succ, List.getElem_toArray, List.getElem_cons_succ, List.getElem_cons_zero]
      refine wpAnyH_done (by kernel_rfl) ?_ _
      go_wp2
      go_ret2
      exact ⟨rfl, (HB.out.drew.alloc HB.out.size _).trans (q3.mono (Nat.le_trans HB.out.size (by simp)))⟩
  · go_simp
    refine (HP.out _).mono ?_
    rintro e w3 ⟨rfl, q3⟩
    have S3 := Lib.hid (Box5.same (w := w1.drew) H5.out q3)
    go_wp2_with fail
    refine hK.out _ _ (S3.out) (fun hHeld2 => ?_)
    clear hK K
    try simp only [Act.put, List.setIfInBounds_toArray, List.set_cons_zero, List.set_cons_succ, List.getElem_toArray, List.getElem_cons_succ, List.getElem_cons_zero]
    refine wpAnyH_ready (rs := [10]) (by kernel_rfl) (by simp) ?_
    refine AllReadyH.cons (o := _) rfl (fun K hK => ?_) AllReadyH.nil
    go_simp
    refine hK.out _ _ (Box5.alloc S3.out _) (fun hHeld2 => ?_)
    clear hK K
    try simp only [Act.put, List.setIfInBounds_toArray, List.set_cons_zero, List.set_cons_succ, List.getElem_toArray, List.getElem_cons_succ, List.getElem_cons_zero]
    refine wpAnyH_ready (rs := [11]) (by kernel_rfl) (by simp) ?_
    refine AllReadyH.cons (o := _) rfl (fun K hK => ?_) AllReadyH.nil
    go_simp
    refine hK.out _ _ (Box5.alloc S3.out _) (fun hHeld2 => ?_)
    clear hK K
    try simp only [Act.put, List.setIfInBounds_toArray, List.set_cons_zero, List.set_cons_succ, List.getElem_toArray, List.getElem_cons_succ, List.getElem_cons_zero]
    refine wpAnyH_take (i := 15) (v := .string (⟨#[ofI op, ofI (d + 16 * a), ofI b, ofI 0]⟩ ++ t)) rfl (by kernel_rfl) (by kernel_rfl) (by kernel_rfl) (fun _ _ _ h => h) (Or.inl ⟨by rfl, fun w hSw => by clear hSw; go_simp; omega⟩) (by assumption) ?_
    try simp only [Act.put, List.setIfInBounds_toArray, List.set_cons_zero, List.set_cons_succ, List.getElem_toArray, List.getElem_cons_succ, List.getElem_cons_zero]
    refine wpAnyH_take (i := 16) (v := .string (⟨#[ofI op, ofI (d + 16 * a), ofI b, ofI 0]⟩ ++ t)) rfl (by kernel_rfl) (by kernel_rfl) (by kernel_rfl) (fun _ _ _ h => h) (Or.inl ⟨by rfl, fun w hSw => by (try dsimp only at hSw); go_simp⟩) (by assumption) ?_
    try simp only [Act.put, List.setIfInBounds_toArray, List.set_cons_zero, List.set_cons_succ, List.getElem_toArray, List.getElem_cons_succ, List.getElem_cons_zero]
    refine wpAnyH_take (i := 17) (v := .int .i64 0) rfl (by kernel_rfl) (by kernel_rfl) (by kernel_rfl) (fun _ _ _ h => h) (Or.inl ⟨by rfl, fun w hSw => by (try dsimp only at hSw); go_simp⟩) (by assumption) ?_
    try simp only [Act.put, List.setIfInBounds_toArray, List.set_cons_zero, List.set_cons_succ, List.getElem_toArray, List.getElem_cons_succ, List.getElem_cons_zero]
    refine wpAnyH_done (by kernel_rfl) ?_ _
    go_wp2
    go_ret2
    exact ⟨rfl, (HB.out.drew.trans (q3.mono HB.out.size)).alloc (Nat.le_trans HB.out.size q3.size) _⟩

include h0 h1 d0 d1 a0 a1 b0 b1 i0 i1 in
theorem rencode_any (w : World) :
    Calls Tryd.prog 38 #[.agg #[.int .u8 op, .int .u8 d, .int .u8 a, .int .u8 b, .int .u32 im]] w fun e w' => e = .returned (.tuple #[.string (encS op d a b im), .int .i64 (errI op d a b im)]) ∧ Below w.heap.size w w' := by
  have HM : ∀ w', Calls Tryd.prog 59 #[.agg #[.int .u8 op, .int .u8 d, .int .u8 a, .int .u8 b, .int .u32 im]] w' fun e w'' => e = .returned (.bool (Ix.insnOk op d a b im)) ∧ Below w'.heap.size w' w'' :=
    fun w' => may_any op d a b im h0 h1 d0 d1 a0 a1 b0 b1 w'
  by_cases h : Ix.insnOk op d a b im = true
  · obtain ⟨_, r1, r2, _, _⟩ := Ix.ok_parts h
    rw [h] at HM
    rw [errI_yes op d a b im h, ← encS_yes op d a b im h]
    refine rencode_yes op d a b im h0 h1 d0 a0 b0 b1 (Ix.regOk_lt _ _ r1) (Ix.regOk_lt _ _ r2) w (Lib.hid HM) _ ?_ (Lib.hid fun w => ?_)
    · show (((Wd.le im.toNat 4).toArray.size : Nat) : Int) ≤ 4
      simp [Wd.le_length]
    · exact bytes_any im 4 i0 i1 (by omega) (by omega) w
  · have h' : Ix.insnOk op d a b im = false := by simpa using h
    rw [h'] at HM
    rw [errI_no op d a b im h', encS_no op d a b im h']
    exact rencode_no op d a b im w (Lib.hid HM)
end
end Go.Proofs.YtlnnhgmkibjgmaaDoor.I
end

/- insn.Encode, whatever it is asked. -/
section
set_option linter.unusedVariables false
namespace Go.Proofs.YtlnnhgmkibjgmaaDoor.I
open Go.RowKit

section
variable (op d a b im : Int) (h0 : 0 ≤ op) (h1 : op < 256) (d0 : 0 ≤ d) (d1 : d < 256) (a0 : 0 ≤ a) (a1 : a < 256) (b0 : 0 ≤ b) (b1 : b < 256) (i0 : 0 ≤ im) (i1 : im < 4294967296)

set_option maxHeartbeats 1000000 in
set_option maxRecDepth 100000 in
theorem encode_no (w : World) (HC : Hid (∀ w', Below w.heap.size w w' → Calls Tryd.prog 50 #[.agg #[.int .u8 op, .int .u8 d, .int .u8 a, .int .u8 b, .int .u32 im]] w' fun e w'' => e = .returned (.int .i64 2) ∧ Below w'.heap.size w' w'')) :
    Calls Tryd.prog 72 #[.agg #[.int .u8 op, .int .u8 d, .int .u8 a, .int .u8 b, .int .u32 im]] w fun e w' => e = .returned (.tuple #[.string ⟨#[]⟩, .int .i64 2]) ∧ Below w.heap.size w w' := by
  have hb : Below w.heap.size w (w.alloc (.cells #[.int .u8 op, .int .u8 d, .int .u8 a, .int .u8 b, .int .u32 im] 40)) := (Below.refl _ _).alloc (Nat.le_refl _) _
  have HU1 := Lib.hid (HC.out _ hb)
  clear HC
  go_enter Tryd.func72, Tryd.ntmps72
  go_wp2_with fail
  refine HU1.out.mono ?_; rintro e w1 ⟨rfl, q⟩
  replace hb := hb.trans (q.mono hb.size); clear q
  go_wp2
  go_ret2
  exact ⟨rfl, hb⟩

include h0 h1 d0 a0 b0 b1 in
set_option maxHeartbeats 2000000 in
set_option maxRecDepth 100000 in
theorem encode_yes (hd : d < 16) (ha : a < 16) (w : World) (HC : Hid (∀ w', Below w.heap.size w w' → Calls Tryd.prog 50 #[.agg #[.int .u8 op, .int .u8 d, .int .u8 a, .int .u8 b, .int .u32 im]] w' fun e w'' => e = .returned (.int .i64 0) ∧ Below w'.heap.size w' w''))
    (t : ByteArray) (ht : (t.size : Int) ≤ 4) (HP : Hid (∀ w, Calls Tryd.prog 83 #[.int .u32 im, .int .i64 4] w fun e w' => e = .returned (.tuple #[.string t, .int .i64 0]) ∧ Below w.heap.size w w')) :
    Calls Tryd.prog 72 #[.agg #[.int .u8 op, .int .u8 d, .int .u8 a, .int .u8 b, .int .u32 im]] w fun e w' => e = .returned (.tuple #[.string (⟨#[ofI op, ofI (d + 16 * a), ofI b, ofI 0]⟩ ++ t), .int .i64 0]) ∧ Below w.heap.size w w' := by
  have hb : Below w.heap.size w (w.alloc (.cells #[.int .u8 op, .int .u8 d, .int .u8 a, .int .u8 b, .int .u32 im] 40)) := (Below.refl _ _).alloc (Nat.le_refl _) _
  have HU1 := Lib.hid (HC.out _ hb)
  clear HC
  have HT := Lib.hid (fun W => text4 W op (d + 16 * a) b 0 h0 h1 (by omega) (by omega) b0 b1 (by omega) (by omega))
  go_enter Tryd.func72, Tryd.ntmps72
  go_wp2_with fail
  refine HU1.out.mono ?_; rintro e w1 ⟨rfl, q⟩
  have hz : w.heap.size + 1 ≤ w1.heap.size := by have := q.size; simpa using this
  have hc : ∀ o v, (w.alloc (.cells #[.int .u8 op, .int .u8 d, .int .u8 a, .int .u8 b, .int .u32 im] 40)).cell? ⟨w.heap.size, o, none⟩ = some v → w1.cell? ⟨w.heap.size, o, none⟩ = some v := by
    intro o v h
    rw [← h]
    exact q.cell (p := ⟨w.heap.size, o, none⟩) (by simp)
  have c4 := hc 4 (.int .u32 im) (by simp [go_sem])
  go_wp2_with fail
  refine (HP.out _).mono ?_; rintro e w2 ⟨rfl, q2⟩
  have hz2 : w.heap.size + 1 ≤ w2.heap.size := Nat.le_trans hz q2.size
  have hc2 : ∀ o v, w1.cell? ⟨w.heap.size, o, none⟩ = some v → w2.cell? ⟨w.heap.size, o, none⟩ = some v := by
    intro o v h
    rw [← h]
    exact q2.cell (p := ⟨w.heap.size, o, none⟩) (by show w.heap.size < _; omega)
  have e0 := hc2 0 (.int .u8 op) (hc 0 _ (by simp [go_sem]))
  have e1 := hc2 1 (.int .u8 d) (hc 1 _ (by simp [go_sem]))
  have e2 := hc2 2 (.int .u8 a) (hc 2 _ (by simp [go_sem]))
  have e3 := hc2 3 (.int .u8 b) (hc 3 _ (by simp [go_sem]))
  have HB := Lib.hid ((hb.trans (q.mono hb.size)).trans (q2.mono (hb.trans (q.mono hb.size)).size))
  clear hb q q2 hc hc2 hz c4
  have hconv := HT.out w2
  clear HT
  go_wp2
  go_ret2
  exact ⟨rfl, HB.out.alloc HB.out.size _⟩

include h0 h1 d0 d1 a0 a1 b0 b1 i0 i1 in
/-- Encode, whatever it is asked. -/
theorem iencode_any (w : World) (hk : Tabled w) :
    Calls Tryd.prog 72 #[.agg #[.int .u8 op, .int .u8 d, .int .u8 a, .int .u8 b, .int .u32 im]] w fun e w' => e = .returned (.tuple #[.string (encS op d a b im), .int .i64 (errI op d a b im)]) ∧ Below w.heap.size w w' := by
  have HC : ∀ w', Below w.heap.size w w' → Calls Tryd.prog 50 #[.agg #[.int .u8 op, .int .u8 d, .int .u8 a, .int .u8 b, .int .u32 im]] w' fun e w'' => e = .returned (.int .i64 (errI op d a b im)) ∧ Below w'.heap.size w' w'' :=
    fun w' hb => icheck_any op d a b im h0 h1 d0 d1 a0 a1 b0 b1 w' (hk.below hb)
  by_cases h : Ix.insnOk op d a b im = true
  · obtain ⟨_, r1, r2, _, _⟩ := Ix.ok_parts h
    rw [errI_yes op d a b im h] at HC ⊢
    rw [← encS_yes op d a b im h]
    refine encode_yes op d a b im h0 h1 d0 a0 b0 b1 (Ix.regOk_lt _ _ r1) (Ix.regOk_lt _ _ r2) w (Lib.hid HC) _ ?_ (Lib.hid fun w => ?_)
    · show (((Wd.le im.toNat 4).toArray.size : Nat) : Int) ≤ 4
      simp [Wd.le_length]
    · exact put4 im i0 i1 w
  · have h' : Ix.insnOk op d a b im = false := by simpa using h
    rw [errI_no op d a b im h'] at HC ⊢
    rw [encS_no op d a b im h']
    exact encode_no op d a b im w (Lib.hid HC)
end
end Go.Proofs.YtlnnhgmkibjgmaaDoor.I
end
