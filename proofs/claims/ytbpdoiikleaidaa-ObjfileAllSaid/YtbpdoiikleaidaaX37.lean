/- The program's writing: a symbol. (written by mk_kc.py) -/
import Derived.Test.YtbpdoiikleaidaaX36
set_option linter.unusedVariables false
set_option linter.unusedSimpArgs false
namespace Go.Proofs.Ytbpdoiikleaidaa
open Go Go.RowKit Oj Pk Of

theorem take_snoc' {α : Type} (L : List α) (d : α) (k : Nat) (h : k < L.length) : L.take (k + 1) = L.take k ++ [L.getD k d] := by
  rw [List.take_succ_eq_append_getElem h, List.getD_eq_getElem?_getD, List.getElem?_eq_getElem h]; rfl
theorem enc_snoc {α : Type} (f : α → List UInt8) (L : List α) (d : α) (k : Nat) (h : k < L.length) : ((L.take (k + 1)).map f).flatten = ((L.take k).map f).flatten ++ f (L.getD k d) := by
  rw [take_snoc' L d k h]; simp
theorem enc_take_len {α : Type} (f : α → List UInt8) (L : List α) (k : Nat) : ((L.take k).map f).flatten.length ≤ (L.map f).flatten.length := by
  conv => rhs; rw [← List.take_append_drop k L]
  rw [List.map_append, List.flatten_append, List.length_append]
  omega
section
variable {w0 : World} {b : Nat} {l : List UInt8}
set_option maxHeartbeats 8000000 in
set_option maxRecDepth 100000 in
theorem wsym_any (s : Sy) (hs : inS s) (v : Value) (w : World) (hA : SymAt w0 v s) (h : Wt w0 w b l) (hl : l.length + (encS s).length ≤ 4194304) :
    Calls Try.prog 38 #[.pointer (some ⟨b, 0, none⟩), v] w (WPost w0 w b l (encS s)) := by
  obtain ⟨vr, vn, rfl, ⟨ar, cr, rfl, hR⟩, ⟨an, cn, rfl, hN⟩⟩ := hA
  obtain ⟨n1, ⟨b1, b2⟩, ⟨k1, k2⟩, ⟨z1, z2⟩, y1, rl, rI, nl, nI⟩ := hs
  have hlen : (encS s).length = 2 + s.name.length + 1 + 1 + 4 + (2 + s.bytes.length) + 2 + (encRs s.rels).length + 1 + (encNs s.notes).length := by
    unfold encS txt; simp only [List.length_append, Wd.le_length]; omega
  rw [hlen] at hl
  have HC0 := Lib.hid (fun W (q : Wt w0 W b l) => wtext_any s.name n1 W q (by omega))
  have HC1 := Lib.hid (fun W (q : Wt w0 W b (l ++ txt s.name)) => wnum1 s.bind b1 b2 W q (by simp only [List.length_append, Wd.le_length, txt]; omega))
  have HC2 := Lib.hid (fun W (q : Wt w0 W b (l ++ txt s.name ++ Wd.le s.bind.toNat 1)) => wnum1 s.kind k1 k2 W q (by simp only [List.length_append, Wd.le_length, txt]; omega))
  have HC3 := Lib.hid (fun W (q : Wt w0 W b (l ++ txt s.name ++ Wd.le s.bind.toNat 1 ++ Wd.le s.kind.toNat 1)) => wnum4 s.size z1 z2 W q (by simp only [List.length_append, Wd.le_length, txt]; omega))
  have HC4 := Lib.hid (fun W (q : Wt w0 W b (l ++ txt s.name ++ Wd.le s.bind.toNat 1 ++ Wd.le s.kind.toNat 1 ++ Wd.le s.size.toNat 4)) => wtext_any s.bytes y1 W q (by simp only [List.length_append, Wd.le_length, txt]; omega))
  have HC5 := Lib.hid (fun W (q : Wt w0 W b (l ++ txt s.name ++ Wd.le s.bind.toNat 1 ++ Wd.le s.kind.toNat 1 ++ Wd.le s.size.toNat 4 ++ txt s.bytes)) => wcount2 s.rels.length rl W q (by simp only [List.length_append, Wd.le_length, txt]; omega))
  obtain ⟨L6, hL6⟩ : ∃ L, L = l ++ txt s.name ++ Wd.le s.bind.toNat 1 ++ Wd.le s.kind.toNat 1 ++ Wd.le s.size.toNat 4 ++ txt s.bytes ++ Wd.le s.rels.length 2 := ⟨_, rfl⟩
  have hl6 : L6.length = l.length + (2 + s.name.length + 1 + 1 + 4 + (2 + s.bytes.length) + 2) := by rw [hL6]; simp only [List.length_append, Wd.le_length, txt]; omega
  have HR := Lib.hid (fun k (hk : k < s.rels.length) W (q : Wt w0 W b (L6 ++ ((s.rels.take k).map encR).flatten)) => wrel_any (s.rels.getD k Rl.nought) (rI _ (getD_mem hk)) W q (by have := enc_take_len encR s.rels k; rw [List.length_append]; unfold encRs at hl; omega))
  obtain ⟨L7, hL7⟩ : ∃ L, L = L6 ++ encRs s.rels := ⟨_, rfl⟩
  have HC7 := Lib.hid (fun W (q : Wt w0 W b L7) => wcount1 s.notes.length nl W q (by rw [hL7, List.length_append]; omega))
  obtain ⟨L8, hL8⟩ : ∃ L, L = L7 ++ Wd.le s.notes.length 1 := ⟨_, rfl⟩
  have hl8 : L8.length = L6.length + (encRs s.rels).length + 1 := by rw [hL8, hL7]; simp only [List.length_append, Wd.le_length]
  have HNt := Lib.hid (fun k (hk : k < s.notes.length) W (q : Wt w0 W b (L8 ++ ((s.notes.take k).map encN).flatten)) => wnote_any (s.notes.getD k Nt.nought) (nI _ (getD_mem hk)) W q (by have := enc_take_len encN s.notes k; rw [List.length_append]; unfold encNs at hl; omega))
  have HE : Hid (L8 ++ encNs s.notes = l ++ encS s) := Lib.hid (by rw [hL8, hL7, hL6]; simp only [encS, List.append_assoc])
  have HL6 := Lib.hid hL6.symm
  have HL8 := Lib.hid hL8.symm
  obtain ⟨lr, hlr⟩ : ∃ lr, lr = s.rels := ⟨_, rfl⟩
  obtain ⟨ln, hln⟩ : ∃ ln, ln = s.notes := ⟨_, rfl⟩
  rw [← hlr] at hR HR hL7 HC5 HL6 rl ⊢
  rw [← hln] at hN HNt HE HC7 HL8 nl ⊢
  obtain ⟨nr, hnr⟩ : ∃ nr, nr = lr.length := ⟨_, rfl⟩
  obtain ⟨nn, hnn⟩ : ∃ nr, nr = ln.length := ⟨_, rfl⟩
  rw [← hnr] at hR HR HC5 HL6 rl ⊢
  rw [← hnn] at hN HNt HC7 HL8 nl ⊢
  obtain ⟨u0, g0⟩ : ∃ x, x = tx s.name := ⟨_, rfl⟩
  obtain ⟨u1, g1⟩ : ∃ x, x = s.bind := ⟨_, rfl⟩
  obtain ⟨u2, g2⟩ : ∃ x, x = s.kind := ⟨_, rfl⟩
  obtain ⟨u3, g3⟩ : ∃ x, x = s.size := ⟨_, rfl⟩
  obtain ⟨u4, g4⟩ : ∃ x, x = tx s.bytes := ⟨_, rfl⟩
  obtain ⟨s0, e0⟩ : ∃ x, x = txt s.name := ⟨_, rfl⟩
  obtain ⟨s4, e4⟩ : ∃ x, x = txt s.bytes := ⟨_, rfl⟩
  simp only [← e0, ← e4, ← g0, ← g1, ← g2, ← g3, ← g4] at HC0 HC1 HC2 HC3 HC4 HC5 HL6 b1 b2 k1 k2 ⊢
  have hri : (nr : Int) ≤ 65536 := by omega
  have hnni : (nn : Int) ≤ 256 := by omega
  have HRR := Lib.hid hR
  have HNN := Lib.hid hN
  have HS7 : Hid (∀ k, k = nr → L6 ++ ((lr.take k).map encR).flatten = L7) := Lib.hid (fun k hk => by rw [hL7, hk, hnr, List.take_length]; rfl)
  have HS8 : Hid (∀ k, k = nn → L8 ++ ((ln.take k).map encN).flatten = l ++ encS s) := Lib.hid (fun k hk => by rw [← HE.out, hk, hnn, List.take_length]; rfl)
  have HT7 : Hid (∀ k, k < nr → L6 ++ ((lr.take k).map encR).flatten ++ encR (lr.getD k Rl.nought) = L6 ++ ((lr.take (k + 1)).map encR).flatten) := Lib.hid (fun k hk => by rw [enc_snoc encR lr Rl.nought k (by omega), List.append_assoc])
  have HT8 : Hid (∀ k, k < nn → L8 ++ ((ln.take k).map encN).flatten ++ encN (ln.getD k Nt.nought) = L8 ++ ((ln.take (k + 1)).map encN).flatten) := Lib.hid (fun k hk => by rw [enc_snoc encN ln Nt.nought k (by omega), List.append_assoc])
  have HB0 := Lib.hid (Blk.new w 47 [.string u0, .int .u8 u1, .int .u8 u2, .int .u32 u3, .string u4, .slice ar nr cr, .slice an nn cn])
  have H0 := Lib.hid (h.below (below_box (Below.refl w.heap.size w) (.cells #[.string u0, .int .u8 u1, .int .u8 u2, .int .u32 u3, .string u4, .slice ar nr cr, .slice an nn cn] 47)))
  have K0 := Lib.hid (Kept.of_below (below_box (Below.refl w.heap.size w) (.cells #[.string u0, .int .u8 u1, .int .u8 u2, .int .u32 u3, .string u4, .slice ar nr cr, .slice an nn cn] 47)))
  clear HE hl hlen hl6 hl8 hL6 hL7 hL8 hlr hln hnr hnn g0 g1 g2 g3 g4 e0 e4 hR hN h n1 z1 z2 y1 rl rI nl nI
  go_enter Try.func38, Try.ntmps38
  go_wp2_with fail
  refine (HC0.out _ H0.out).mono ?_; rintro e w1 ⟨rfl, q, k⟩
  have H1 := Lib.hid q
  have K1 := Lib.hid (K0.out.trans k)
  have HB1 := Lib.hid (k _ _ _ HB0.out (by decide) (by decide))
  clear q k HC0 H0 K0 HB0
  have c0 : w1.cell? ⟨w.heap.size, 0, none⟩ = some (.string u0) := HB1.out.cell 0
  have c1 : w1.cell? ⟨w.heap.size, 1, none⟩ = some (.int .u8 u1) := HB1.out.cell 1
  have c2 : w1.cell? ⟨w.heap.size, 2, none⟩ = some (.int .u8 u2) := HB1.out.cell 2
  have c3 : w1.cell? ⟨w.heap.size, 3, none⟩ = some (.int .u32 u3) := HB1.out.cell 3
  have c4 : w1.cell? ⟨w.heap.size, 4, none⟩ = some (.string u4) := HB1.out.cell 4
  have c5 : w1.cell? ⟨w.heap.size, 5, none⟩ = some (.slice ar nr cr) := HB1.out.cell 5
  have c6 : w1.cell? ⟨w.heap.size, 6, none⟩ = some (.slice an nn cn) := HB1.out.cell 6
  go_wp2_with fail
  refine (HC1.out _ H1.out).mono ?_; rintro e w2 ⟨rfl, q, k⟩
  have H2 := Lib.hid q
  have K2 := Lib.hid (K1.out.trans k)
  have HB2 := Lib.hid (k _ _ _ HB1.out (by decide) (by decide))
  clear q k HC1 H1 K1 HB1
  clear c0 c1 c2 c3 c4 c5 c6
  have c0 : w2.cell? ⟨w.heap.size, 0, none⟩ = some (.string u0) := HB2.out.cell 0
  have c1 : w2.cell? ⟨w.heap.size, 1, none⟩ = some (.int .u8 u1) := HB2.out.cell 1
  have c2 : w2.cell? ⟨w.heap.size, 2, none⟩ = some (.int .u8 u2) := HB2.out.cell 2
  have c3 : w2.cell? ⟨w.heap.size, 3, none⟩ = some (.int .u32 u3) := HB2.out.cell 3
  have c4 : w2.cell? ⟨w.heap.size, 4, none⟩ = some (.string u4) := HB2.out.cell 4
  have c5 : w2.cell? ⟨w.heap.size, 5, none⟩ = some (.slice ar nr cr) := HB2.out.cell 5
  have c6 : w2.cell? ⟨w.heap.size, 6, none⟩ = some (.slice an nn cn) := HB2.out.cell 6
  go_wp2_with fail
  refine (HC2.out _ H2.out).mono ?_; rintro e w3 ⟨rfl, q, k⟩
  have H3 := Lib.hid q
  have K3 := Lib.hid (K2.out.trans k)
  have HB3 := Lib.hid (k _ _ _ HB2.out (by decide) (by decide))
  clear q k HC2 H2 K2 HB2
  clear c0 c1 c2 c3 c4 c5 c6
  have c0 : w3.cell? ⟨w.heap.size, 0, none⟩ = some (.string u0) := HB3.out.cell 0
  have c1 : w3.cell? ⟨w.heap.size, 1, none⟩ = some (.int .u8 u1) := HB3.out.cell 1
  have c2 : w3.cell? ⟨w.heap.size, 2, none⟩ = some (.int .u8 u2) := HB3.out.cell 2
  have c3 : w3.cell? ⟨w.heap.size, 3, none⟩ = some (.int .u32 u3) := HB3.out.cell 3
  have c4 : w3.cell? ⟨w.heap.size, 4, none⟩ = some (.string u4) := HB3.out.cell 4
  have c5 : w3.cell? ⟨w.heap.size, 5, none⟩ = some (.slice ar nr cr) := HB3.out.cell 5
  have c6 : w3.cell? ⟨w.heap.size, 6, none⟩ = some (.slice an nn cn) := HB3.out.cell 6
  go_wp2_with fail
  refine (HC3.out _ H3.out).mono ?_; rintro e w4 ⟨rfl, q, k⟩
  have H4 := Lib.hid q
  have K4 := Lib.hid (K3.out.trans k)
  have HB4 := Lib.hid (k _ _ _ HB3.out (by decide) (by decide))
  clear q k HC3 H3 K3 HB3
  clear c0 c1 c2 c3 c4 c5 c6
  have c0 : w4.cell? ⟨w.heap.size, 0, none⟩ = some (.string u0) := HB4.out.cell 0
  have c1 : w4.cell? ⟨w.heap.size, 1, none⟩ = some (.int .u8 u1) := HB4.out.cell 1
  have c2 : w4.cell? ⟨w.heap.size, 2, none⟩ = some (.int .u8 u2) := HB4.out.cell 2
  have c3 : w4.cell? ⟨w.heap.size, 3, none⟩ = some (.int .u32 u3) := HB4.out.cell 3
  have c4 : w4.cell? ⟨w.heap.size, 4, none⟩ = some (.string u4) := HB4.out.cell 4
  have c5 : w4.cell? ⟨w.heap.size, 5, none⟩ = some (.slice ar nr cr) := HB4.out.cell 5
  have c6 : w4.cell? ⟨w.heap.size, 6, none⟩ = some (.slice an nn cn) := HB4.out.cell 6
  go_wp2_with fail
  refine (HC4.out _ H4.out).mono ?_; rintro e w5 ⟨rfl, q, k⟩
  have H5 := Lib.hid q
  have K5 := Lib.hid (K4.out.trans k)
  have HB5 := Lib.hid (k _ _ _ HB4.out (by decide) (by decide))
  clear q k HC4 H4 K4 HB4
  clear c0 c1 c2 c3 c4 c5 c6
  have c0 : w5.cell? ⟨w.heap.size, 0, none⟩ = some (.string u0) := HB5.out.cell 0
  have c1 : w5.cell? ⟨w.heap.size, 1, none⟩ = some (.int .u8 u1) := HB5.out.cell 1
  have c2 : w5.cell? ⟨w.heap.size, 2, none⟩ = some (.int .u8 u2) := HB5.out.cell 2
  have c3 : w5.cell? ⟨w.heap.size, 3, none⟩ = some (.int .u32 u3) := HB5.out.cell 3
  have c4 : w5.cell? ⟨w.heap.size, 4, none⟩ = some (.string u4) := HB5.out.cell 4
  have c5 : w5.cell? ⟨w.heap.size, 5, none⟩ = some (.slice ar nr cr) := HB5.out.cell 5
  have c6 : w5.cell? ⟨w.heap.size, 6, none⟩ = some (.slice an nn cn) := HB5.out.cell 6
  go_wp2_with fail
  refine (HC5.out _ H5.out).mono ?_; rintro e w6 ⟨rfl, q, k⟩
  have H6 := Lib.hid q
  have K6 := Lib.hid (K5.out.trans k)
  have HB6 := Lib.hid (k _ _ _ HB5.out (by decide) (by decide))
  clear q k HC5 H5 K5 HB5
  clear c0 c1 c2 c3 c4 c5 c6
  rw [HL6.out] at H6
  clear HL6
  have c0 : w6.cell? ⟨w.heap.size, 0, none⟩ = some (.string u0) := HB6.out.cell 0
  have c1 : w6.cell? ⟨w.heap.size, 1, none⟩ = some (.int .u8 u1) := HB6.out.cell 1
  have c2 : w6.cell? ⟨w.heap.size, 2, none⟩ = some (.int .u8 u2) := HB6.out.cell 2
  have c3 : w6.cell? ⟨w.heap.size, 3, none⟩ = some (.int .u32 u3) := HB6.out.cell 3
  have c4 : w6.cell? ⟨w.heap.size, 4, none⟩ = some (.string u4) := HB6.out.cell 4
  have c5 : w6.cell? ⟨w.heap.size, 5, none⟩ = some (.slice ar nr cr) := HB6.out.cell 5
  have c6 : w6.cell? ⟨w.heap.size, 6, none⟩ = some (.slice an nn cn) := HB6.out.cell 6
  go_wp2_with fail
  clear c0 c1 c2 c3 c4 c5 c6
  go_loopw [38] (fun i wr => ∃ k : Nat, (k : Int) ≤ nr ∧ i = .int .i64 k ∧ Hid (Wt w0 wr b (L6 ++ ((lr.take k).map encR).flatten)) ∧ Hid (Kept w wr) ∧ Hid (Blk wr w.heap.size 47 [.string u0, .int .u8 u1, .int .u8 u2, .int .u32 u3, .string u4, .slice ar nr cr, .slice an nn cn])) (fun i _ => nr - (intOf i).toNat)
  case atStart => exact ⟨0, by omega, rfl, Lib.hid (by simpa using H6.out), K6, HB6⟩
  case round =>
    clear H6 K6 HB6
    obtain ⟨k, hk, rfl, HWk, HKk, HBk⟩ := hrel
    by_cases hlt : k < nr
    · have hd : decide (k < nr) = true := decide_eq_true hlt
      obtain ⟨bb, oo, rfl, hbl, hcl⟩ := HRR.out (by omega)
      have HCk := Lib.hid (fun W q => HR.out k hlt W q)
      have HTk := Lib.hid (HT7.out k hlt)
      have hbr : bb < wr.heap.size := Nat.lt_of_lt_of_le hbl HWk.out.low.size
      obtain ⟨x, hx⟩ : ∃ x, x = lr.getD k Rl.nought := ⟨_, rfl⟩
      have hL := (hcl k hlt).below HWk.out.low hbl
      rw [← hx] at hL HCk HTk
      obtain ⟨d0, d1, d2, d3⟩ := hL.rl
      obtain ⟨x0, h0⟩ : ∃ y, y = x.off := ⟨_, rfl⟩
      obtain ⟨x1, h1⟩ : ∃ y, y = x.kind := ⟨_, rfl⟩
      obtain ⟨x2, h2⟩ : ∃ y, y = tx x.name := ⟨_, rfl⟩
      obtain ⟨x3, h3⟩ : ∃ y, y = x.add := ⟨_, rfl⟩
      rw [← h0] at d0
      rw [← h1] at d1
      rw [← h2] at d2
      rw [← h3] at d3
      simp only [← h0, ← h1, ← h2, ← h3] at HCk
      have HW1 := Lib.hid (HWk.out.below (below_box (Below.refl wr.heap.size wr) (.cells #[.int .u32 x0, .int .u8 x1, .string x2, .int .u32 x3] 49)))
      have HK1 := Lib.hid (HKk.out.trans (Kept.of_below (below_box (Below.refl wr.heap.size wr) (.cells #[.int .u32 x0, .int .u8 x1, .string x2, .int .u32 x3] 49))))
      have HB1 := Lib.hid (HBk.out.alloc (.cells #[.int .u32 x0, .int .u8 x1, .string x2, .int .u32 x3] 49))
      clear hL hcl hx h0 h1 h2 h3 HWk HKk HBk
      go_wp2_with fail
      refine (HCk.out _ HW1.out).mono ?_; rintro e w2 ⟨rfl, q, kq⟩
      have HW2 := Lib.hid q
      rw [HTk.out] at HW2
      have HK2 := Lib.hid (HK1.out.trans kq)
      have HB2 := Lib.hid (kq _ _ _ HB1.out (by decide) (by decide))
      clear q kq HCk HTk HW1 HK1 HB1 d0 d1 d2 d3
      go_wp2_with fail
      go_roundw
      case rel => exact ⟨k + 1, by omega, by go_num, HW2, HK2, HB2⟩
      case measure => simp [intOf]; omega
    · have hd : decide (k < nr) = false := decide_eq_false hlt
      have HEE := HS7.out k (by omega)
      rw [HEE] at HWk
      obtain ⟨w7, hw7⟩ : ∃ w7, w7 = wr := ⟨_, rfl⟩
      rw [← hw7] at HWk HKk HBk ⊢
      clear hlt HEE hw7
      have H7 := HWk
      have K7 := HKk
      have HB7 := HBk
      clear HWk HKk HBk
      have c0 : w7.cell? ⟨w.heap.size, 0, none⟩ = some (.string u0) := HB7.out.cell 0
      have c1 : w7.cell? ⟨w.heap.size, 1, none⟩ = some (.int .u8 u1) := HB7.out.cell 1
      have c2 : w7.cell? ⟨w.heap.size, 2, none⟩ = some (.int .u8 u2) := HB7.out.cell 2
      have c3 : w7.cell? ⟨w.heap.size, 3, none⟩ = some (.int .u32 u3) := HB7.out.cell 3
      have c4 : w7.cell? ⟨w.heap.size, 4, none⟩ = some (.string u4) := HB7.out.cell 4
      have c5 : w7.cell? ⟨w.heap.size, 5, none⟩ = some (.slice ar nr cr) := HB7.out.cell 5
      have c6 : w7.cell? ⟨w.heap.size, 6, none⟩ = some (.slice an nn cn) := HB7.out.cell 6
      go_wp2_with fail
      refine (HC7.out _ H7.out).mono ?_; rintro e w8 ⟨rfl, q, k⟩
      have H8 := Lib.hid q
      have K8 := Lib.hid (K7.out.trans k)
      have HB8 := Lib.hid (k _ _ _ HB7.out (by decide) (by decide))
      clear q k HC7 H7 K7 HB7
      clear c0 c1 c2 c3 c4 c5 c6
      rw [HL8.out] at H8
      clear HL8
      have c0 : w8.cell? ⟨w.heap.size, 0, none⟩ = some (.string u0) := HB8.out.cell 0
      have c1 : w8.cell? ⟨w.heap.size, 1, none⟩ = some (.int .u8 u1) := HB8.out.cell 1
      have c2 : w8.cell? ⟨w.heap.size, 2, none⟩ = some (.int .u8 u2) := HB8.out.cell 2
      have c3 : w8.cell? ⟨w.heap.size, 3, none⟩ = some (.int .u32 u3) := HB8.out.cell 3
      have c4 : w8.cell? ⟨w.heap.size, 4, none⟩ = some (.string u4) := HB8.out.cell 4
      have c5 : w8.cell? ⟨w.heap.size, 5, none⟩ = some (.slice ar nr cr) := HB8.out.cell 5
      have c6 : w8.cell? ⟨w.heap.size, 6, none⟩ = some (.slice an nn cn) := HB8.out.cell 6
      go_wp2_with fail
      clear c0 c1 c2 c3 c4 c5 c6
      go_loopw [54] (fun i wr => ∃ k : Nat, (k : Int) ≤ nn ∧ i = .int .i64 k ∧ Hid (Wt w0 wr b (L8 ++ ((ln.take k).map encN).flatten)) ∧ Hid (Kept w wr) ∧ Hid (Blk wr w.heap.size 47 [.string u0, .int .u8 u1, .int .u8 u2, .int .u32 u3, .string u4, .slice ar nr cr, .slice an nn cn])) (fun i _ => nn - (intOf i).toNat)
      case atStart => exact ⟨0, by omega, rfl, Lib.hid (by simpa using H8.out), K8, HB8⟩
      case round =>
        clear H8 K8 HB8
        obtain ⟨k, hk, rfl, HWk, HKk, HBk⟩ := hrel
        by_cases hlt : k < nn
        · have hd : decide (k < nn) = true := decide_eq_true hlt
          obtain ⟨bb, oo, rfl, hbl, hcl⟩ := HNN.out (by omega)
          have HCk := Lib.hid (fun W q => HNt.out k hlt W q)
          have HTk := Lib.hid (HT8.out k hlt)
          have hbr : bb < wr.heap.size := Nat.lt_of_lt_of_le hbl HWk.out.low.size
          obtain ⟨x, hx⟩ : ∃ x, x = ln.getD k Nt.nought := ⟨_, rfl⟩
          have hL := (hcl k hlt).below HWk.out.low hbl
          rw [← hx] at hL HCk HTk
          obtain ⟨d0, d1, d2⟩ := hL.nt
          obtain ⟨x0, h0⟩ : ∃ y, y = x.kind := ⟨_, rfl⟩
          obtain ⟨x1, h1⟩ : ∃ y, y = x.n := ⟨_, rfl⟩
          obtain ⟨x2, h2⟩ : ∃ y, y = x.m := ⟨_, rfl⟩
          rw [← h0] at d0
          rw [← h1] at d1
          rw [← h2] at d2
          simp only [← h0, ← h1, ← h2] at HCk
          have HW1 := Lib.hid (HWk.out.below (below_box (Below.refl wr.heap.size wr) (.cells #[.int .u8 x0, .int .u32 x1, .int .u32 x2] 65)))
          have HK1 := Lib.hid (HKk.out.trans (Kept.of_below (below_box (Below.refl wr.heap.size wr) (.cells #[.int .u8 x0, .int .u32 x1, .int .u32 x2] 65))))
          have HB1 := Lib.hid (HBk.out.alloc (.cells #[.int .u8 x0, .int .u32 x1, .int .u32 x2] 65))
          clear hL hcl hx h0 h1 h2 HWk HKk HBk
          go_wp2_with fail
          refine (HCk.out _ HW1.out).mono ?_; rintro e w2 ⟨rfl, q, kq⟩
          have HW2 := Lib.hid q
          rw [HTk.out] at HW2
          have HK2 := Lib.hid (HK1.out.trans kq)
          have HB2 := Lib.hid (kq _ _ _ HB1.out (by decide) (by decide))
          clear q kq HCk HTk HW1 HK1 HB1 d0 d1 d2
          go_wp2_with fail
          go_roundw
          case rel => exact ⟨k + 1, by omega, by go_num, HW2, HK2, HB2⟩
          case measure => simp [intOf]; omega
        · have hd : decide (k < nn) = false := decide_eq_false hlt
          have HEE := HS8.out k (by omega)
          rw [HEE] at HWk
          clear hlt HEE
          go_wp2_with fail
          go_end0
          exact ⟨rfl, HWk.out, HKk.out⟩
end
end Go.Proofs.Ytbpdoiikleaidaa
