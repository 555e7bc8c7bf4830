/- The program's isSym: a symbol, whole. (written by mk_nf.py) -/
import Derived.Test.YtfnofolahhoggaaNE
set_option linter.unusedVariables false
set_option linter.unusedSimpArgs false
namespace Go.Proofs.Ytfnofolahhoggaa
open Go Go.RowKit Oj

theorem Blk.seven {w : World} {g : Nat} {t : TypeId} {a b c d e f h : Value} (H : Blk w g t [a, b, c, d, e, f, h]) :
    w.cell? ⟨g, 0, none⟩ = some a ∧ w.cell? ⟨g, 1, none⟩ = some b ∧ w.cell? ⟨g, 2, none⟩ = some c ∧ w.cell? ⟨g, 3, none⟩ = some d ∧ w.cell? ⟨g, 4, none⟩ = some e ∧ w.cell? ⟨g, 5, none⟩ = some f ∧ w.cell? ⟨g, 6, none⟩ = some h :=
  ⟨H.cell 0, H.cell 1, H.cell 2, H.cell 3, H.cell 4, H.cell 5, H.cell 6⟩
theorem below_new2 (w : World) (o p : Obj) : Below w.heap.size w ((w.alloc o).alloc p) := below_box (below_new1 w o) p
theorem Blk.new2 (w : World) (o : Obj) (t : TypeId) (cs : List Value) : Blk ((w.alloc o).alloc (.cells cs.toArray t)) (w.heap.size + 1) t cs := by
  have h := Blk.new (w.alloc o) t cs
  have e : (w.alloc o).heap.size = w.heap.size + 1 := by simp
  rwa [e] at h

set_option maxHeartbeats 8000000 in
set_option maxRecDepth 100000 in
theorem issym_any (s : Sy) (h : syFits s) (v : Value) (w : World) (hA : SymAt w v s) : Calls Try.prog 47 #[v] w fun e w' => e = .returned (.bool (symOk s)) ∧ Below w.heap.size w w' := by
  obtain ⟨vr, vn, rfl, hR, hN⟩ := hA
  have h1 := h.1
  have H1 := Lib.hid (fun W => isname_any (tx s.name) (by rw [tx_size]; exact h1) W)
  rw [by_tx] at H1
  have H2 := Lib.hid (fun W => isbound_any s h vr vn (by obtain ⟨a, c, rfl, _⟩ := hR; rfl) (by obtain ⟨a, c, rfl, _⟩ := hN; rfl) W)
  have H3 := Lib.hid (fun W => iskind_any s h vr vn W)
  have H4 := Lib.hid (fun W => issized_any s h vr vn W)
  have H5 := Lib.hid (fun W (hq : Below w.heap.size w W) => refers_any s h vr vn W (hR.below hq))
  have H6 := Lib.hid (fun W (hq : Below w.heap.size w W) => demands_any s h vr vn W (hN.below hq))
  obtain ⟨ar, cr, hvr, _⟩ := hR
  obtain ⟨an, cn, hvn, _⟩ := hN
  obtain ⟨nr, hnr⟩ : ∃ nr, nr = s.rels.length := ⟨_, rfl⟩
  obtain ⟨nn, hnn⟩ : ∃ nn, nn = s.notes.length := ⟨_, rfl⟩
  rw [← hnr] at hvr
  rw [← hnn] at hvn
  obtain ⟨p1, e1⟩ : ∃ p, p = nameOk s.name := ⟨_, rfl⟩
  obtain ⟨p2, e2⟩ : ∃ p, p = bindOk s.bind := ⟨_, rfl⟩
  obtain ⟨p3, e3⟩ : ∃ p, p = sykOk s.kind := ⟨_, rfl⟩
  obtain ⟨p4, e4⟩ : ∃ p, p = sizeOk s.kind s.size s.bytes.length := ⟨_, rfl⟩
  obtain ⟨p5, e5⟩ : ∃ p, p = relsOk s.bytes.length s.rels := ⟨_, rfl⟩
  obtain ⟨p6, e6⟩ : ∃ p, p = notesOk s.notes := ⟨_, rfl⟩
  obtain ⟨E, hE⟩ : ∃ E, E = symOk s := ⟨_, rfl⟩
  have HE : Hid (E = (p1 && p2 && p3 && p4 && p5 && p6)) := Lib.hid (by rw [hE, e1, e2, e3, e4, e5, e6]; rfl)
  unfold syV at H2 H3 H4 H5 H6
  rw [← hE]
  rw [← e1] at H1
  rw [← e2] at H2
  rw [← e3] at H3
  rw [← e4] at H4
  rw [← e5] at H5
  rw [← e6] at H6
  obtain ⟨nm, gnm⟩ : ∃ x, x = tx s.name := ⟨_, rfl⟩
  obtain ⟨bi, gbi⟩ : ∃ x, x = s.bind := ⟨_, rfl⟩
  obtain ⟨ki, gki⟩ : ∃ x, x = s.kind := ⟨_, rfl⟩
  obtain ⟨sz, gsz⟩ : ∃ x, x = s.size := ⟨_, rfl⟩
  obtain ⟨by1, gby⟩ : ∃ x, x = tx s.bytes := ⟨_, rfl⟩
  rw [← gnm] at H1
  rw [← gnm, ← gbi, ← gki, ← gsz, ← gby] at H2 H3 H4 H5 H6 ⊢
  clear h h1 e1 e2 e3 e4 e5 e6 hE hnr hnn gnm gbi gki gsz gby
  subst hvr hvn
  have HB0 := Lib.hid (below_new2 w (.cells #[.string nm, .int .u8 bi, .int .u8 ki, .int .u32 sz, .string by1, .slice ar nr cr, .slice an nn cn] 50) (.cells #[.string nm, .int .u8 bi, .int .u8 ki, .int .u32 sz, .string by1, .slice ar nr cr, .slice an nn cn] 95))
  have HX0 := Lib.hid (Blk.new2 w (.cells #[.string nm, .int .u8 bi, .int .u8 ki, .int .u32 sz, .string by1, .slice ar nr cr, .slice an nn cn] 50) 95 [.string nm, .int .u8 bi, .int .u8 ki, .int .u32 sz, .string by1, .slice ar nr cr, .slice an nn cn])
  obtain ⟨g, hg⟩ : ∃ g, g = w.heap.size + 1 := ⟨_, rfl⟩
  rw [← hg] at HX0
  have HG := Lib.hid hg
  clear hg
  go_enter Try.func47, Try.ntmps47
  go_wp2_with fail
  refine (H1.out _).mono ?_; rintro e w1 ⟨rfl, q1⟩
  have HB1 := Lib.hid (below_call HB0.out q1)
  have HX1 := Lib.hid (HX0.out.call q1)
  clear q1
  cases p1
  · have hr : E = false := by rw [HE.out]; simp
    subst hr
    go_wp2_with fail
    go_ret
    exact ⟨rfl, HB1.out⟩
  obtain ⟨a0, a1, a2, a3, a4, a5, a6⟩ := HX1.out.seven
  rw [HG.out] at a0 a1 a2 a3 a4 a5 a6
  go_wp2_with fail
  clear a0 a1 a2 a3 a4 a5 a6
  refine (H2.out _).mono ?_; rintro e w2 ⟨rfl, q2⟩
  have HB2 := Lib.hid (below_call HB1.out q2)
  have HX2 := Lib.hid (HX1.out.call q2)
  clear q2
  cases p2
  · have hr : E = false := by rw [HE.out]; simp
    subst hr
    go_wp2_with fail
    go_ret
    exact ⟨rfl, HB2.out⟩
  obtain ⟨a0, a1, a2, a3, a4, a5, a6⟩ := HX2.out.seven
  rw [HG.out] at a0 a1 a2 a3 a4 a5 a6
  go_wp2_with fail
  clear a0 a1 a2 a3 a4 a5 a6
  refine (H3.out _).mono ?_; rintro e w3 ⟨rfl, q3⟩
  have HB3 := Lib.hid (below_call HB2.out q3)
  have HX3 := Lib.hid (HX2.out.call q3)
  clear q3
  cases p3
  · have hr : E = false := by rw [HE.out]; simp
    subst hr
    go_wp2_with fail
    go_ret
    exact ⟨rfl, HB3.out⟩
  obtain ⟨a0, a1, a2, a3, a4, a5, a6⟩ := HX3.out.seven
  rw [HG.out] at a0 a1 a2 a3 a4 a5 a6
  go_wp2_with fail
  clear a0 a1 a2 a3 a4 a5 a6
  refine (H4.out _).mono ?_; rintro e w4 ⟨rfl, q4⟩
  have HB4 := Lib.hid (below_call HB3.out q4)
  have HX4 := Lib.hid (HX3.out.call q4)
  clear q4
  cases p4
  · have hr : E = false := by rw [HE.out]; simp
    subst hr
    go_wp2_with fail
    go_ret
    exact ⟨rfl, HB4.out⟩
  obtain ⟨a0, a1, a2, a3, a4, a5, a6⟩ := HX4.out.seven
  rw [HG.out] at a0 a1 a2 a3 a4 a5 a6
  go_wp2_with fail
  clear a0 a1 a2 a3 a4 a5 a6
  refine (H5.out _ HB4.out).mono ?_; rintro e w5 ⟨rfl, q5⟩
  have HB5 := Lib.hid (below_call HB4.out q5)
  have HX5 := Lib.hid (HX4.out.call q5)
  clear q5
  cases p5
  · have hr : E = false := by rw [HE.out]; simp
    subst hr
    go_wp2_with fail
    go_ret
    exact ⟨rfl, HB5.out⟩
  obtain ⟨a0, a1, a2, a3, a4, a5, a6⟩ := HX5.out.seven
  rw [HG.out] at a0 a1 a2 a3 a4 a5 a6
  go_wp2_with fail
  clear a0 a1 a2 a3 a4 a5 a6
  refine (H6.out _ HB5.out).mono ?_; rintro e w6 ⟨rfl, q6⟩
  have HB6 := Lib.hid (below_call HB5.out q6)
  have HX6 := Lib.hid (HX5.out.call q6)
  clear q6
  cases p6
  · have hr : E = false := by rw [HE.out]; simp
    subst hr
    go_wp2_with fail
    go_ret
    exact ⟨rfl, HB6.out⟩
  have hr : E = true := by rw [HE.out]; rfl
  subst hr
  go_wp2_with fail
  go_ret
  exact ⟨rfl, HB6.out⟩
end Go.Proofs.Ytfnofolahhoggaa
