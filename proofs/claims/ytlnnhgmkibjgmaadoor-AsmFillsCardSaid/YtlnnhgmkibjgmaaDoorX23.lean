/- The program's own, named, going and the constructors of lines. -/
import Derived.Test.YtlnnhgmkibjgmaaDoorX22
import Derived.Test.YtlnnhgmkibjgmaaDoorX03
import Derived.Deep.RegionHeld3
set_option linter.unusedVariables false
set_option linter.unusedSimpArgs false
namespace Go.Proofs.YtlnnhgmkibjgmaaDoor
open Go Go.RowKit Oj Al

def lnC (L : ByteArray) (op d a b im : Int) (T N : ByteArray) : List Value := [.string L, .int .u8 op, .int .u8 d, .int .u8 a, .int .u8 b, .int .u32 im, .string T, .string N]
def lnR (L : ByteArray) (op d a b im : Int) (T N : ByteArray) : Value := .agg #[.string L, .int .u8 op, .int .u8 d, .int .u8 a, .int .u8 b, .int .u32 im, .string T, .string N]
theorem agg8 {w : World} {g : Nat} {L T N : ByteArray} {op d a b im : Int} (h : Blk w g 42 (lnC L op d a b im T N)) : w.cell? ⟨g, 0, none⟩ = some (.string L) ∧ w.cell? ⟨g, 1, none⟩ = some (.int .u8 op) ∧ w.cell? ⟨g, 2, none⟩ = some (.int .u8 d) ∧ w.cell? ⟨g, 3, none⟩ = some (.int .u8 a) ∧ w.cell? ⟨g, 4, none⟩ = some (.int .u8 b) ∧ w.cell? ⟨g, 5, none⟩ = some (.int .u32 im) ∧ w.cell? ⟨g, 6, none⟩ = some (.string T) ∧ w.cell? ⟨g, 7, none⟩ = some (.string N) :=
  ⟨h.cell 0, h.cell 1, h.cell 2, h.cell 3, h.cell 4, h.cell 5, h.cell 6, h.cell 7⟩

theorem store8 {w0 W : World} {g : Nat} {t : TypeId} {z0 z1 z2 z3 z4 z5 z6 z7 : Value} (a0 a1 a2 a3 a4 a5 a6 a7 : Value) (HB : Below w0.heap.size w0 W) (hg : w0.heap.size ≤ g) (HG : Blk W g t [z0, z1, z2, z3, z4, z5, z6, z7]) :
    ∀ W', W' = ((((((((W.setCell ⟨g, 0, none⟩ a0).setCell ⟨g, 1, none⟩ a1).setCell ⟨g, 2, none⟩ a2).setCell ⟨g, 3, none⟩ a3).setCell ⟨g, 4, none⟩ a4).setCell ⟨g, 5, none⟩ a5).setCell ⟨g, 6, none⟩ a6).setCell ⟨g, 7, none⟩ a7) →
      Below w0.heap.size w0 W' ∧ Blk W' g t [a0, a1, a2, a3, a4, a5, a6, a7] := by
  rintro W' rfl
  refine ⟨?_, ?_⟩
  · exact below_set (below_set (below_set (below_set (below_set (below_set (below_set (below_set HB hg _ _) hg _ _) hg _ _) hg _ _) hg _ _) hg _ _) hg _ _) hg _ _
  · exact (((((((HG.set_ 0 a0).set_ 1 a1).set_ 2 a2).set_ 3 a3).set_ 4 a4).set_ 5 a5).set_ 6 a6).set_ 7 a7
theorem Blk.eight {w : World} {g : Nat} {t : TypeId} {a b c d e f h i : Value} (H : Blk w g t [a, b, c, d, e, f, h, i]) :
    w.cell? ⟨g, 0, none⟩ = some a ∧ w.cell? ⟨g, 1, none⟩ = some b ∧ w.cell? ⟨g, 2, none⟩ = some c ∧ w.cell? ⟨g, 3, none⟩ = some d ∧ w.cell? ⟨g, 4, none⟩ = some e ∧ w.cell? ⟨g, 5, none⟩ = some f ∧ w.cell? ⟨g, 6, none⟩ = some h ∧ w.cell? ⟨g, 7, none⟩ = some i :=
  ⟨H.cell 0, H.cell 1, H.cell 2, H.cell 3, H.cell 4, H.cell 5, H.cell 6, H.cell 7⟩
theorem Blk.free8 {w : World} {g : Nat} {t : TypeId} {cs : List Value} (H : Blk w g t cs) :
    w.frozen? ⟨g, 0, none⟩ = false ∧ w.frozen? ⟨g, 1, none⟩ = false ∧ w.frozen? ⟨g, 2, none⟩ = false ∧ w.frozen? ⟨g, 3, none⟩ = false ∧ w.frozen? ⟨g, 4, none⟩ = false ∧ w.frozen? ⟨g, 5, none⟩ = false ∧ w.frozen? ⟨g, 6, none⟩ = false ∧ w.frozen? ⟨g, 7, none⟩ = false ∧ g < w.heap.size :=
  ⟨H.frozen 0, H.frozen 1, H.frozen 2, H.frozen 3, H.frozen 4, H.frozen 5, H.frozen 6, H.frozen 7, H.lt⟩

set_option maxHeartbeats 4000000 in
set_option maxRecDepth 100000 in
theorem aown_raw (L T N : ByteArray) (op d a b im : Int) (hL : L.size ≤ 140737488355328) (hT : T.size ≤ 140737488355328) (hN : N.size ≤ 140737488355328) (w : World) :
    Calls Tryd.prog 45 #[lnR L op d a b im T N] w fun e w' => e = .returned (lnR L op d a b im T N) ∧ Below w.heap.size w w' := by
  have HL := Lib.hid (sclone_any L hL)
  have HT := Lib.hid (sclone_any T hT)
  have HN := Lib.hid (sclone_any N hN)
  have HX0 := Lib.hid (Blk.new2 w (.cells #[.string L, .int .u8 op, .int .u8 d, .int .u8 a, .int .u8 b, .int .u32 im, .string T, .string N] 42) 42 [.string ⟨#[]⟩, .int .u8 0, .int .u8 0, .int .u8 0, .int .u8 0, .int .u32 0, .string ⟨#[]⟩, .string ⟨#[]⟩])
  have HB0 := Lib.hid (below_new2 w (.cells #[.string L, .int .u8 op, .int .u8 d, .int .u8 a, .int .u8 b, .int .u32 im, .string T, .string N] 42) (.cells #[.string ⟨#[]⟩, .int .u8 0, .int .u8 0, .int .u8 0, .int .u8 0, .int .u32 0, .string ⟨#[]⟩, .string ⟨#[]⟩] 42))
  have HI0 := Lib.hid ((Blk.new w 42 (lnC L op d a b im T N)).alloc (.cells #[.string ⟨#[]⟩, .int .u8 0, .int .u8 0, .int .u8 0, .int .u8 0, .int .u32 0, .string ⟨#[]⟩, .string ⟨#[]⟩] 42))
  unfold lnC at HI0
  unfold lnR
  clear hL hT hN
  go_enter Tryd.func45, Tryd.ntmps45
  go_upto_region 1 with (fail)
  obtain ⟨wb, hwb⟩ : ∃ wb, wb = (w.alloc (.cells #[.string L, .int .u8 op, .int .u8 d, .int .u8 a, .int .u8 b, .int .u32 im, .string T, .string N] 42)).alloc (.cells #[.string ⟨#[]⟩, .int .u8 0, .int .u8 0, .int .u8 0, .int .u8 0, .int .u32 0, .string ⟨#[]⟩, .string ⟨#[]⟩] 42) := ⟨_, rfl⟩
  rw [← hwb] at HX0 HB0 HI0 ⊢
  clear hwb
  have HXd : Hid (Blk wb.drew (w.heap.size + 1) 42 [.string ⟨#[]⟩, .int .u8 0, .int .u8 0, .int .u8 0, .int .u8 0, .int .u32 0, .string ⟨#[]⟩, .string ⟨#[]⟩]) := Lib.hid HX0.out
  have HId : Hid (Blk wb.drew w.heap.size 42 [.string L, .int .u8 op, .int .u8 d, .int .u8 a, .int .u8 b, .int .u32 im, .string T, .string N]) := Lib.hid HI0.out
  have HBd : Hid (Below w.heap.size w wb.drew) := Lib.hid (below_drew HB0.out 1)
  clear HB0
  have hS1 : wb.cell? ⟨w.heap.size, 0, none⟩ = some (.string L) ∧ wb.cell? ⟨w.heap.size, 6, none⟩ = some (.string T) ∧ wb.cell? ⟨w.heap.size, 7, none⟩ = some (.string N) := ⟨HI0.out.cell 0, HI0.out.cell 6, HI0.out.cell 7⟩
  have HSS : Hid (∀ W, Blk W w.heap.size 42 [.string L, .int .u8 op, .int .u8 d, .int .u8 a, .int .u8 b, .int .u32 im, .string T, .string N] → W.cell? ⟨w.heap.size, 0, none⟩ = some (.string L) ∧ W.cell? ⟨w.heap.size, 6, none⟩ = some (.string T) ∧ W.cell? ⟨w.heap.size, 7, none⟩ = some (.string N)) := Lib.hid (fun W h => ⟨h.cell 0, h.cell 6, h.cell 7⟩)
  go_region_held3 (fun w' => w'.cell? ⟨w.heap.size, 0, none⟩ = some (.string L) ∧ w'.cell? ⟨w.heap.size, 6, none⟩ = some (.string T) ∧ w'.cell? ⟨w.heap.size, 7, none⟩ = some (.string N))
    (first | exact hS1 | exact hS2 | exact hS3 | exact hS4 | exact HSS.out _ (HI3.out.set_ 0 (.string L)) | exact HSS.out _ ((HI3.out.set_ 0 (.string L)).set_ 6 (.string T)) | exact HSS.out _ (((HI3.out.set_ 0 (.string L)).set_ 6 (.string T)).set_ 7 (.string N)))
    ((first
      | (go_at_call 56; refine (HL.out _).mono ?_; rintro e w1 ⟨rfl, q⟩; have HX1 := Lib.hid (HXd.out.call q); have HI1 := Lib.hid (HId.out.call q); have HB1 := Lib.hid (below_call HBd.out q); have hS2 := HSS.out _ HI1.out; clear q HXd HId HBd HX0 HI0 HL)
      | (go_at_call 56; refine (HT.out _).mono ?_; rintro e w2 ⟨rfl, q⟩; have HX2 := Lib.hid (HX1.out.call q); have HI2 := Lib.hid (HI1.out.call q); have HB2 := Lib.hid (below_call HB1.out q); have hS3 := HSS.out _ HI2.out; clear q HX1 HI1 HB1 HT)
      | (go_at_call 56; refine (HN.out _).mono ?_; rintro e w3 ⟨rfl, q⟩; have HX3 := Lib.hid (HX2.out.call q); have HI3 := Lib.hid (HI2.out.call q); have HB3 := Lib.hid (below_call HB2.out q); have hS4 := HSS.out _ HI3.out; have x0 := hS4.1; have x6 := hS4.2.1; have x7 := hS4.2.2; have f0 : w3.frozen? ⟨w.heap.size, 0, none⟩ = false := HI3.out.frozen 0; have f6 : w3.frozen? ⟨w.heap.size, 6, none⟩ = false := HI3.out.frozen 6; have f7 : w3.frozen? ⟨w.heap.size, 7, none⟩ = false := HI3.out.frozen 7; have hlt : w.heap.size < w3.heap.size := HI3.out.lt; clear q HX2 HI2 HB2 HN)))
  obtain ⟨w4, hw4⟩ : ∃ w4, w4 = ((w3.setCell ⟨w.heap.size, 0, none⟩ (.string L)).setCell ⟨w.heap.size, 6, none⟩ (.string T)).setCell ⟨w.heap.size, 7, none⟩ (.string N) := ⟨_, rfl⟩
  have HI4 : Hid (Blk w4 w.heap.size 42 [.string L, .int .u8 op, .int .u8 d, .int .u8 a, .int .u8 b, .int .u32 im, .string T, .string N]) := Lib.hid (by rw [hw4]; exact ((HI3.out.set_ 0 (.string L)).set_ 6 (.string T)).set_ 7 (.string N))
  have HX4 : Hid (Blk w4 (w.heap.size + 1) 42 [.string ⟨#[]⟩, .int .u8 0, .int .u8 0, .int .u8 0, .int .u8 0, .int .u32 0, .string ⟨#[]⟩, .string ⟨#[]⟩]) := Lib.hid (by rw [hw4]; exact ((HX3.out.far (Nat.succ_ne_self _) _).far (Nat.succ_ne_self _) _).far (Nat.succ_ne_self _) _)
  have HB4 : Hid (Below w.heap.size w w4) := Lib.hid (by rw [hw4]; exact below_set (below_set (below_set HB3.out (Nat.le_refl _) _ _) (Nat.le_refl _) _ _) (Nat.le_refl _) _ _)
  rw [← hw4]
  clear hw4 x0 x6 x7 f0 f6 f7 hlt hS1 hS2 hS3 hS4 HSS HI3 HX3 HB3
  obtain ⟨y0, y1, y2, y3, y4, y5, y6, y7⟩ := HI4.out.eight
  obtain ⟨x0, x1, x2, x3, x4, x5, x6, x7⟩ := HX4.out.eight
  obtain ⟨f0, f1, f2, f3, f4, f5, f6, f7, hlt⟩ := HX4.out.free8
  go_wp2_with fail
  obtain ⟨HB5, HX5⟩ := store8 (.string L) (.int .u8 op) (.int .u8 d) (.int .u8 a) (.int .u8 b) (.int .u32 im) (.string T) (.string N) HB4.out (Nat.le_succ _) HX4.out _ rfl
  refine bodyPost_ret (v := .agg #[.string L, .int .u8 op, .int .u8 d, .int .u8 a, .int .u8 b, .int .u32 im, .string T, .string N]) (results_cell_row Tryd.results45 _ _ (w.heap.size + 1) 42 _ (0, 0) _ rfl HX5 Tryd.underlying42 rfl (by kernel_rfl)) rfl ⟨rfl, HB5⟩
end Go.Proofs.YtlnnhgmkibjgmaaDoor
