/- The program's writing: a Rel, a Note. (written by mk_kb.py) -/
import Derived.Test.YtbpdoiikleaidaaX35
import Derived.IntWalk
set_option linter.unusedVariables false
set_option linter.unusedSimpArgs false
namespace Go.Proofs.Ytbpdoiikleaidaa
open Go Go.RowKit Oj Pk Of

section
variable {w0 : World} {b : Nat} {l : List UInt8}
theorem Wt.size {w : World} (h : Wt w0 w b l) : w0.heap.size ≤ w.heap.size := h.low.size
set_option maxHeartbeats 1000000 in
set_option maxRecDepth 100000 in
theorem wrel_any (x : Rl) (hx : inR x) (w : World) (h : Wt w0 w b l) (hl : l.length ≤ 4194304) :
    Calls Try.prog 58 #[.pointer (some ⟨b, 0, none⟩), .agg #[.int .u32 x.off, .int .u8 x.kind, .string (tx x.name), .int .u32 x.add]] w (WPost w0 w b l (encR x)) := by
  obtain ⟨⟨o1, o2⟩, ⟨k1, k2⟩, n1, ⟨a1, a2⟩⟩ := id hx
  have HC0 := Lib.hid (fun W (q : Wt w0 W b (l)) => wnum4 x.off o1 o2 W q (by first | omega | (simp only [List.length_append, Wd.le_length, txt]; omega)))
  have HC1 := Lib.hid (fun W (q : Wt w0 W b (l ++ Wd.le x.off.toNat 4)) => wnum1 x.kind k1 k2 W q (by first | omega | (simp only [List.length_append, Wd.le_length, txt]; omega)))
  have HC2 := Lib.hid (fun W (q : Wt w0 W b (l ++ Wd.le x.off.toNat 4 ++ Wd.le x.kind.toNat 1)) => wtext_any x.name n1 W q (by first | omega | (simp only [List.length_append, Wd.le_length, txt]; omega)))
  have HC3 := Lib.hid (fun W (q : Wt w0 W b (l ++ Wd.le x.off.toNat 4 ++ Wd.le x.kind.toNat 1 ++ txt x.name)) => wnum4 x.add a1 a2 W q (by first | omega | (simp only [List.length_append, Wd.le_length, txt]; omega)))
  have HE : Hid (l ++ Wd.le x.off.toNat 4 ++ Wd.le x.kind.toNat 1 ++ txt x.name ++ Wd.le x.add.toNat 4 = l ++ encR x) := Lib.hid (by simp only [encR, List.append_assoc])
  have HB0 := Lib.hid (Blk.new w 49 [.int .u32 x.off, .int .u8 x.kind, .string (tx x.name), .int .u32 x.add])
  have H0 := Lib.hid (h.below (below_box (Below.refl w.heap.size w) (.cells #[.int .u32 x.off, .int .u8 x.kind, .string (tx x.name), .int .u32 x.add] 49)))
  have K0 := Lib.hid (Kept.of_below (below_box (Below.refl w.heap.size w) (.cells #[.int .u32 x.off, .int .u8 x.kind, .string (tx x.name), .int .u32 x.add] 49)))
  have r1 : 0 ≤ x.kind := hx.2.1.1
  have r2 : x.kind < 256 := hx.2.1.2
  obtain ⟨u0, gu0⟩ : ∃ u, u = x.off := ⟨_, rfl⟩
  obtain ⟨u1, gu1⟩ : ∃ u, u = x.kind := ⟨_, rfl⟩
  obtain ⟨u2, gu2⟩ : ∃ u, u = tx x.name := ⟨_, rfl⟩
  obtain ⟨u3, gu3⟩ : ∃ u, u = x.add := ⟨_, rfl⟩
  simp only [← gu0, ← gu1, ← gu2, ← gu3] at HB0 H0 K0 HE HC0 HC1 HC2 HC3 r1 r2 ⊢
  clear hl h hx o1 o2 k1 k2 n1 a1 a2 gu0 gu1 gu2 gu3
  go_enter Try.func58, Try.ntmps58
  go_wp2_with fail
  refine (HC0.out _ H0.out).mono ?_; rintro e w1 ⟨rfl, q, k⟩
  have H1 := Lib.hid q
  have K1 := Lib.hid (K0.out.trans k)
  have HB1 := Lib.hid (k _ _ _ HB0.out (by decide) (by decide))
  clear q k HC0 H0 K0 HB0
  have c1_0 : w1.cell? ⟨w.heap.size, 0, none⟩ = some (.int .u32 u0) := HB1.out.cell 0
  have c1_1 : w1.cell? ⟨w.heap.size, 1, none⟩ = some (.int .u8 u1) := HB1.out.cell 1
  have c1_2 : w1.cell? ⟨w.heap.size, 2, none⟩ = some (.string u2) := HB1.out.cell 2
  have c1_3 : w1.cell? ⟨w.heap.size, 3, none⟩ = some (.int .u32 u3) := HB1.out.cell 3
  go_wp2_with fail
  refine (HC1.out _ H1.out).mono ?_; rintro e w2 ⟨rfl, q, k⟩
  have H2 := Lib.hid q
  have K2 := Lib.hid (K1.out.trans k)
  have HB2 := Lib.hid (k _ _ _ HB1.out (by decide) (by decide))
  clear q k HC1 H1 K1 HB1
  clear c1_0 c1_1 c1_2 c1_3
  have c2_0 : w2.cell? ⟨w.heap.size, 0, none⟩ = some (.int .u32 u0) := HB2.out.cell 0
  have c2_1 : w2.cell? ⟨w.heap.size, 1, none⟩ = some (.int .u8 u1) := HB2.out.cell 1
  have c2_2 : w2.cell? ⟨w.heap.size, 2, none⟩ = some (.string u2) := HB2.out.cell 2
  have c2_3 : w2.cell? ⟨w.heap.size, 3, none⟩ = some (.int .u32 u3) := HB2.out.cell 3
  go_wp2_with fail
  refine (HC2.out _ H2.out).mono ?_; rintro e w3 ⟨rfl, q, k⟩
  have H3 := Lib.hid q
  have K3 := Lib.hid (K2.out.trans k)
  have HB3 := Lib.hid (k _ _ _ HB2.out (by decide) (by decide))
  clear q k HC2 H2 K2 HB2
  clear c2_0 c2_1 c2_2 c2_3
  have c3_0 : w3.cell? ⟨w.heap.size, 0, none⟩ = some (.int .u32 u0) := HB3.out.cell 0
  have c3_1 : w3.cell? ⟨w.heap.size, 1, none⟩ = some (.int .u8 u1) := HB3.out.cell 1
  have c3_2 : w3.cell? ⟨w.heap.size, 2, none⟩ = some (.string u2) := HB3.out.cell 2
  have c3_3 : w3.cell? ⟨w.heap.size, 3, none⟩ = some (.int .u32 u3) := HB3.out.cell 3
  go_wp2_with fail
  refine (HC3.out _ H3.out).mono ?_; rintro e w4 ⟨rfl, q, k⟩
  have H4 := Lib.hid q
  have K4 := Lib.hid (K3.out.trans k)
  have HB4 := Lib.hid (k _ _ _ HB3.out (by decide) (by decide))
  clear q k HC3 H3 K3 HB3
  clear c3_0 c3_1 c3_2 c3_3
  go_wp2_with fail
  go_end0
  exact ⟨rfl, by rw [← HE.out]; exact H4.out, K4.out⟩
set_option maxHeartbeats 1000000 in
set_option maxRecDepth 100000 in
theorem wnote_any (x : Nt) (hx : inN x) (w : World) (h : Wt w0 w b l) (hl : l.length ≤ 4194304) :
    Calls Try.prog 59 #[.pointer (some ⟨b, 0, none⟩), .agg #[.int .u8 x.kind, .int .u32 x.n, .int .u32 x.m]] w (WPost w0 w b l (encN x)) := by
  obtain ⟨⟨k1, k2⟩, ⟨o1, o2⟩, ⟨a1, a2⟩⟩ := id hx
  have HC0 := Lib.hid (fun W (q : Wt w0 W b (l)) => wnum1 x.kind k1 k2 W q (by first | omega | (simp only [List.length_append, Wd.le_length, txt]; omega)))
  have HC1 := Lib.hid (fun W (q : Wt w0 W b (l ++ Wd.le x.kind.toNat 1)) => wnum4 x.n o1 o2 W q (by first | omega | (simp only [List.length_append, Wd.le_length, txt]; omega)))
  have HC2 := Lib.hid (fun W (q : Wt w0 W b (l ++ Wd.le x.kind.toNat 1 ++ Wd.le x.n.toNat 4)) => wnum4 x.m a1 a2 W q (by first | omega | (simp only [List.length_append, Wd.le_length, txt]; omega)))
  have HE : Hid (l ++ Wd.le x.kind.toNat 1 ++ Wd.le x.n.toNat 4 ++ Wd.le x.m.toNat 4 = l ++ encN x) := Lib.hid (by simp only [encN, List.append_assoc])
  have HB0 := Lib.hid (Blk.new w 65 [.int .u8 x.kind, .int .u32 x.n, .int .u32 x.m])
  have H0 := Lib.hid (h.below (below_box (Below.refl w.heap.size w) (.cells #[.int .u8 x.kind, .int .u32 x.n, .int .u32 x.m] 65)))
  have K0 := Lib.hid (Kept.of_below (below_box (Below.refl w.heap.size w) (.cells #[.int .u8 x.kind, .int .u32 x.n, .int .u32 x.m] 65)))
  have r1 : 0 ≤ x.kind := hx.1.1
  have r2 : x.kind < 256 := hx.1.2
  obtain ⟨u0, gu0⟩ : ∃ u, u = x.kind := ⟨_, rfl⟩
  obtain ⟨u1, gu1⟩ : ∃ u, u = x.n := ⟨_, rfl⟩
  obtain ⟨u2, gu2⟩ : ∃ u, u = x.m := ⟨_, rfl⟩
  simp only [← gu0, ← gu1, ← gu2] at HB0 H0 K0 HE HC0 HC1 HC2 r1 r2 ⊢
  clear hl h hx o1 o2 k1 k2 a1 a2 gu0 gu1 gu2
  go_enter Try.func59, Try.ntmps59
  go_wp2_with fail
  refine (HC0.out _ H0.out).mono ?_; rintro e w1 ⟨rfl, q, k⟩
  have H1 := Lib.hid q
  have K1 := Lib.hid (K0.out.trans k)
  have HB1 := Lib.hid (k _ _ _ HB0.out (by decide) (by decide))
  clear q k HC0 H0 K0 HB0
  have c1_0 : w1.cell? ⟨w.heap.size, 0, none⟩ = some (.int .u8 u0) := HB1.out.cell 0
  have c1_1 : w1.cell? ⟨w.heap.size, 1, none⟩ = some (.int .u32 u1) := HB1.out.cell 1
  have c1_2 : w1.cell? ⟨w.heap.size, 2, none⟩ = some (.int .u32 u2) := HB1.out.cell 2
  go_wp2_with fail
  refine (HC1.out _ H1.out).mono ?_; rintro e w2 ⟨rfl, q, k⟩
  have H2 := Lib.hid q
  have K2 := Lib.hid (K1.out.trans k)
  have HB2 := Lib.hid (k _ _ _ HB1.out (by decide) (by decide))
  clear q k HC1 H1 K1 HB1
  clear c1_0 c1_1 c1_2
  have c2_0 : w2.cell? ⟨w.heap.size, 0, none⟩ = some (.int .u8 u0) := HB2.out.cell 0
  have c2_1 : w2.cell? ⟨w.heap.size, 1, none⟩ = some (.int .u32 u1) := HB2.out.cell 1
  have c2_2 : w2.cell? ⟨w.heap.size, 2, none⟩ = some (.int .u32 u2) := HB2.out.cell 2
  go_wp2_with fail
  refine (HC2.out _ H2.out).mono ?_; rintro e w3 ⟨rfl, q, k⟩
  have H3 := Lib.hid q
  have K3 := Lib.hid (K2.out.trans k)
  have HB3 := Lib.hid (k _ _ _ HB2.out (by decide) (by decide))
  clear q k HC2 H2 K2 HB2
  clear c2_0 c2_1 c2_2
  go_wp2_with fail
  go_end0
  exact ⟨rfl, by rw [← HE.out]; exact H3.out, K3.out⟩
end
end Go.Proofs.Ytbpdoiikleaidaa
