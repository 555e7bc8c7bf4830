/- Some texts of one proof, one behind the other; each has its own head below. -/
import Derived.Test.YtbpdoiikleaidaaX16
/- The program's isSym: a symbol, whole. (written by mk_nf.py) -/
section
set_option linter.unusedVariables false
set_option linter.unusedSimpArgs false
namespace Go.Proofs.Ytbpdoiikleaidaa
open Go Go.RowKit Oj

theorem Blk.seven {w : World} {g : Nat} {t : TypeId} {a b c d e f h : Value} (H : Blk w g t [a, b, c, d, e, f, h]) :
    w.cell? ⟨g, 0, none⟩ = some a ∧ w.cell? ⟨g, 1, none⟩ = some b ∧ w.cell? ⟨g, 2, none⟩ = some c ∧ w.cell? ⟨g, 3, none⟩ = some d ∧ w.cell? ⟨g, 4, none⟩ = some e ∧ w.cell? ⟨g, 5, none⟩ = some f ∧ w.cell? ⟨g, 6, none⟩ = some h :=
  ⟨H.cell 0, H.cell 1, H.cell 2, H.cell 3, H.cell 4, H.cell 5, H.cell 6⟩
theorem below_new2 (w : World) (o p : Obj) : Below w.heap.size w ((w.alloc o).alloc p) := below_box (below_new1 w o) p
theorem Blk.new2 (w : World) (o : Obj) (t : TypeId) (cs : List Value) : Blk ((w.alloc o).alloc (.cells cs.toArray t)) (w.heap.size + 1) t cs := by
  have h := Blk.new (w.alloc o) t cs
  have e : (w.alloc o).heap.size = w.heap.size + 1 := by simp
  rwa [e] at h

set_option maxHeartbeats 8000000 in
set_option maxRecDepth 100000 in
theorem issym_any (s : Sy) (h : syFits s) (v : Value) (w : World) (hA : SymAt w v s) : Calls Try.prog 53 #[v] w fun e w' => e = .returned (.bool (symOk s)) ∧ Below w.heap.size w w' := by
  obtain ⟨vr, vn, rfl, hR, hN⟩ := hA
  have h1 := h.1
  have H1 := Lib.hid (fun W => isname_any (tx s.name) (by rw [tx_size]; exact h1) W)
  rw [by_tx] at H1
  have H2 := Lib.hid (fun W => isbound_any s h vr vn (by obtain ⟨a, c, rfl, _⟩ := hR; rfl) (by obtain ⟨a, c, rfl, _⟩ := hN; rfl) W)
  have H3 := Lib.hid (fun W => iskind_any s h vr vn W)
  have H4 := Lib.hid (fun W => issized_any s h vr vn W)
  have H5 := Lib.hid (fun W (hq : Below w.heap.size w W) => refers_any s h vr vn W (hR.below hq))
  have H6 := Lib.hid (fun W (hq : Below w.heap.size w W) => demands_any s h vr vn W (hN.below hq))
  obtain ⟨ar, cr, hvr, _⟩ := hR
  obtain ⟨an, cn, hvn, _⟩ := hN
  obtain ⟨nr, hnr⟩ : ∃ nr, nr = s.rels.length := ⟨_, rfl⟩
  obtain ⟨nn, hnn⟩ : ∃ nn, nn = s.notes.length := ⟨_, rfl⟩
  rw [← hnr] at hvr
  rw [← hnn] at hvn
  obtain ⟨p1, e1⟩ : ∃ p, p = nameOk s.name := ⟨_, rfl⟩
  obtain ⟨p2, e2⟩ : ∃ p, p = bindOk s.bind := ⟨_, rfl⟩
  obtain ⟨p3, e3⟩ : ∃ p, p = sykOk s.kind := ⟨_, rfl⟩
  obtain ⟨p4, e4⟩ : ∃ p, p = sizeOk s.kind s.size s.bytes.length := ⟨_, rfl⟩
  obtain ⟨p5, e5⟩ : ∃ p, p = relsOk s.bytes.length s.rels := ⟨_, rfl⟩
  obtain ⟨p6, e6⟩ : ∃ p, p = notesOk s.notes := ⟨_, rfl⟩
  obtain ⟨E, hE⟩ : ∃ E, E = symOk s := ⟨_, rfl⟩
  have HE : Hid (E = (p1 && p2 && p3 && p4 && p5 && p6)) := Lib.hid (by rw [hE, e1, e2, e3, e4, e5, e6]; rfl)
  unfold syV at H2 H3 H4 H5 H6
  rw [← hE]
  rw [← e1] at H1
  rw [← e2] at H2
  rw [← e3] at H3
  rw [← e4] at H4
  rw [← e5] at H5
  rw [← e6] at H6
  obtain ⟨nm, gnm⟩ : ∃ x, x = tx s.name := ⟨_, rfl⟩
  obtain ⟨bi, gbi⟩ : ∃ x, x = s.bind := ⟨_, rfl⟩
  obtain ⟨ki, gki⟩ : ∃ x, x = s.kind := ⟨_, rfl⟩
  obtain ⟨sz, gsz⟩ : ∃ x, x = s.size := ⟨_, rfl⟩
  obtain ⟨by1, gby⟩ : ∃ x, x = tx s.bytes := ⟨_, rfl⟩
  rw [← gnm] at H1
  rw [← gnm, ← gbi, ← gki, ← gsz, ← gby] at H2 H3 H4 H5 H6 ⊢
  clear h h1 e1 e2 e3 e4 e5 e6 hE hnr hnn gnm gbi gki gsz gby
  subst hvr hvn
  have HB0 := Lib.hid (below_new2 w (.cells #[.string nm, .int .u8 bi, .int .u8 ki, .int .u32 sz, .string by1, .slice ar nr cr, .slice an nn cn] 47) (.cells #[.string nm, .int .u8 bi, .int .u8 ki, .int .u32 sz, .string by1, .slice ar nr cr, .slice an nn cn] 121))
  have HX0 := Lib.hid (Blk.new2 w (.cells #[.string nm, .int .u8 bi, .int .u8 ki, .int .u32 sz, .string by1, .slice ar nr cr, .slice an nn cn] 47) 121 [.string nm, .int .u8 bi, .int .u8 ki, .int .u32 sz, .string by1, .slice ar nr cr, .slice an nn cn])
  obtain ⟨g, hg⟩ : ∃ g, g = w.heap.size + 1 := ⟨_, rfl⟩
  rw [← hg] at HX0
  have HG := Lib.hid hg
  clear hg
  go_enter Try.func53, Try.ntmps53
  go_wp2_with fail
  refine (H1.out _).mono ?_; rintro e w1 ⟨rfl, q1⟩
  have HB1 := Lib.hid (below_call HB0.out q1)
  have HX1 := Lib.hid (HX0.out.call q1)
  clear q1
  cases p1
  · have hr : E = false := by rw [HE.out]; simp
    subst hr
    go_wp2_with fail
    go_ret
    exact ⟨rfl, HB1.out⟩
  obtain ⟨a0, a1, a2, a3, a4, a5, a6⟩ := HX1.out.seven
  rw [HG.out] at a0 a1 a2 a3 a4 a5 a6
  go_wp2_with fail
  clear a0 a1 a2 a3 a4 a5 a6
  refine (H2.out _).mono ?_; rintro e w2 ⟨rfl, q2⟩
  have HB2 := Lib.hid (below_call HB1.out q2)
  have HX2 := Lib.hid (HX1.out.call q2)
  clear q2
  cases p2
  · have hr : E = false := by rw [HE.out]; simp
    subst hr
    go_wp2_with fail
    go_ret
    exact ⟨rfl, HB2.out⟩
  obtain ⟨a0, a1, a2, a3, a4, a5, a6⟩ := HX2.out.seven
  rw [HG.out] at a0 a1 a2 a3 a4 a5 a6
  go_wp2_with fail
  clear a0 a1 a2 a3 a4 a5 a6
  refine (H3.out _).mono ?_; rintro e w3 ⟨rfl, q3⟩
  have HB3 := Lib.hid (below_call HB2.out q3)
  have HX3 := Lib.hid (HX2.out.call q3)
  clear q3
  cases p3
  · have hr : E = false := by rw [HE.out]; simp
    subst hr
    go_wp2_with fail
    go_ret
    exact ⟨rfl, HB3.out⟩
  obtain ⟨a0, a1, a2, a3, a4, a5, a6⟩ := HX3.out.seven
  rw [HG.out] at a0 a1 a2 a3 a4 a5 a6
  go_wp2_with fail
  clear a0 a1 a2 a3 a4 a5 a6
  refine (H4.out _).mono ?_; rintro e w4 ⟨rfl, q4⟩
  have HB4 := Lib.hid (below_call HB3.out q4)
  have HX4 := Lib.hid (HX3.out.call q4)
  clear q4
  cases p4
  · have hr : E = false := by rw [HE.out]; simp
    subst hr
    go_wp2_with fail
    go_ret
    exact ⟨rfl, HB4.out⟩
  obtain ⟨a0, a1, a2, a3, a4, a5, a6⟩ := HX4.out.seven
  rw [HG.out] at a0 a1 a2 a3 a4 a5 a6
  go_wp2_with fail
  clear a0 a1 a2 a3 a4 a5 a6
  refine (H5.out _ HB4.out).mono ?_; rintro e w5 ⟨rfl, q5⟩
  have HB5 := Lib.hid (below_call HB4.out q5)
  have HX5 := Lib.hid (HX4.out.call q5)
  clear q5
  cases p5
  · have hr : E = false := by rw [HE.out]; simp
    subst hr
    go_wp2_with fail
    go_ret
    exact ⟨rfl, HB5.out⟩
  obtain ⟨a0, a1, a2, a3, a4, a5, a6⟩ := HX5.out.seven
  rw [HG.out] at a0 a1 a2 a3 a4 a5 a6
  go_wp2_with fail
  clear a0 a1 a2 a3 a4 a5 a6
  refine (H6.out _ HB5.out).mono ?_; rintro e w6 ⟨rfl, q6⟩
  have HB6 := Lib.hid (below_call HB5.out q6)
  have HX6 := Lib.hid (HX5.out.call q6)
  clear q6
  cases p6
  · have hr : E = false := by rw [HE.out]; simp
    subst hr
    go_wp2_with fail
    go_ret
    exact ⟨rfl, HB6.out⟩
  have hr : E = true := by rw [HE.out]; rfl
  subst hr
  go_wp2_with fail
  go_ret
  exact ⟨rfl, HB6.out⟩
end Go.Proofs.Ytbpdoiikleaidaa
end

/- The document's rels: a symbol's relocations. -/
section
set_option linter.unusedVariables false
set_option linter.unusedSimpArgs false
namespace Go.Proofs.Ytbpdoiikleaidaa
open Go Go.RowKit Oj

set_option maxHeartbeats 8000000 in
set_option maxRecDepth 100000 in
theorem rrels_any (s : Sy) (h : syFits s) (h8 : s.bytes.length ≤ 8192) (vr vn : Value) (hvn : ∃ an nn cn, vn = .slice an nn cn) (w : World) (hA : RelsAt w vr s.rels) : Calls Try.prog 40 #[syV s vr vn] w fun e w' => e = .returned (.bool (relsOk s.bytes.length s.rels)) ∧ Below w.heap.size w w' := by
  obtain ⟨name, bind, k0, z, bytes, l, notes⟩ := s
  obtain ⟨_, _, _, _, hby, h1, _, h2, _⟩ := h
  obtain ⟨an, nn, cn, rfl⟩ := hvn
  simp only at h1 h2 hA hby h8
  unfold syV
  simp only
  obtain ⟨a, c, rfl, h3⟩ := hA
  obtain ⟨n, hn⟩ : ∃ n, n = l.length := ⟨_, rfl⟩
  obtain ⟨T, hT⟩ : ∃ T, T = tx bytes := ⟨_, rfl⟩
  obtain ⟨N, hN⟩ : ∃ N : Int, N = (bytes.length : Int) := ⟨_, rfl⟩
  obtain ⟨M, hM⟩ : ∃ M, M = tx name := ⟨_, rfl⟩
  have hTs : (T.size : Int) = N := by rw [hT, tx_size, hN]
  have hN2 : N ≤ 8192 := by omega
  have hN0 : 0 ≤ N := by omega
  have hni : (n : Int) ≤ 4398046511104 := by omega
  rw [← hn] at h3 ⊢
  rw [← hT, ← hN, ← hM]
  have HN := Lib.hid hn
  have H2 := Lib.hid h2
  have H3 := Lib.hid h3
  have HX0 := Lib.hid (Blk.new w 47 [.string M, .int .u8 bind, .int .u8 k0, .int .u32 z, .string T, .slice a n c, .slice an nn cn])
  have HB0 := Lib.hid (below_new1 w (.cells #[.string M, .int .u8 bind, .int .u8 k0, .int .u32 z, .string T, .slice a n c, .slice an nn cn] 47))
  clear hn h1 h2 h3 hT hN hby hM h8
  go_enter Try.func40, Try.ntmps40
  go_wp2_with fail
  go_loopw [3, 4] (fun f i wr => ∃ k : Nat, (k : Int) ≤ n ∧ i = .int .i64 k ∧ ∃ F : Int, f = .int .i64 F ∧ 0 ≤ F ∧ F ≤ 8589934592 ∧ Hid (F = endAt l k) ∧ Hid (∀ j, j < k → relOk N (endAt l j) (l.getD j Rl.nought) = true) ∧ Hid (Below w.heap.size w wr) ∧ Hid (Blk wr w.heap.size 47 [.string M, .int .u8 bind, .int .u8 k0, .int .u32 z, .string T, .slice a n c, .slice an nn cn])) (fun _ i _ => n - (intOf i).toNat)
  case atStart => exact ⟨0, by omega, rfl, 0, rfl, by omega, by omega, Lib.hid rfl, Lib.hid fun j hj => absurd hj (by omega), HB0, HX0⟩
  case round =>
    clear HB0 HX0
    obtain ⟨k, hk, rfl, F, rfl, hF0, hF1, HF, HK, HB, HS⟩ := hrel
    have b5 : wr.cell? ⟨w.heap.size, 5, none⟩ = some (.slice a n c) := HS.out.cell 5
    by_cases hlt : k < n
    · obtain ⟨b, o, rfl, hbl, hcl⟩ := H3.out (by omega)
      obtain ⟨x, hx⟩ : ∃ x, x = l.getD k Rl.nought := ⟨_, rfl⟩
      have hL := ((hcl k hlt).below HB.out hbl)
      rw [← hx] at hL
      obtain ⟨c0, c1, c2, c3⟩ := hL.rl
      have hfit := H2.out k (by rw [← HN.out]; exact hlt)
      rw [← hx] at hfit
      obtain ⟨⟨f1, f2⟩, ⟨f3, f4⟩, ⟨f5, f6⟩, f7⟩ := hfit
      have hbr : b < wr.heap.size := Nat.lt_of_lt_of_le hbl HB.out.size
      obtain ⟨of, hof⟩ : ∃ of, of = x.off := ⟨_, rfl⟩
      obtain ⟨kk, hkk⟩ : ∃ kk, kk = x.kind := ⟨_, rfl⟩
      obtain ⟨ad, had⟩ : ∃ ad, ad = x.add := ⟨_, rfl⟩
      obtain ⟨U, hU⟩ : ∃ U, U = tx x.name := ⟨_, rfl⟩
      rw [← hof] at c0 f1 f2
      rw [← hkk] at c1 f3 f4
      rw [← hU] at c2
      rw [← had] at c3
      have HW := Lib.hid (fun W => rwidth_any kk f3 f4 W)
      obtain ⟨wi, hwi⟩ : ∃ wi, wi = width kk := ⟨_, rfl⟩
      have hw1 := width_le kk
      rw [← hwi] at HW hw1
      obtain ⟨hw0, hw4⟩ := hw1
      have HI := Lib.hid (fun W => rname_any U (by rw [hU, tx_size]; exact f7) W)
      have hbU : by' U = x.name := by rw [hU, by_tx]
      rw [hbU] at HI
      obtain ⟨nb, hnb⟩ : ∃ nb, nb = nameOk x.name := ⟨_, rfl⟩
      rw [← hnb] at HI
      have HR : Hid (relOk N (endAt l k) (l.getD k Rl.nought) = (decide (wi ≠ 0 ∧ F ≤ of ∧ of + wi ≤ N) && nb)) := Lib.hid (by
        rw [← hx]; unfold relOk placeOk; rw [← hof, ← hkk, ← hwi, ← hnb, HF.out])
      have HE : Hid (endAt l (k + 1) = of + wi) := Lib.hid (by show (l.getD k Rl.nought).off + width (l.getD k Rl.nought).kind = _; rw [← hx, ← hof, ← hkk, ← hwi])
      have hd : decide (k < n) = true := decide_eq_true hlt
      have HBa := Lib.hid (below_box HB.out (.cells #[.int .u32 of, .int .u8 kk, .string U, .int .u32 ad] 49))
      have HSa := Lib.hid (HS.out.alloc (.cells #[.int .u32 of, .int .u8 kk, .string U, .int .u32 ad] 49))
      have hcT : (wr.alloc (.cells #[.int .u32 of, .int .u8 kk, .string U, .int .u32 ad] 49)).cell? ⟨w.heap.size, 4, none⟩ = some (.string T) := HSa.out.cell 4
      clear hcl hL hx hof hkk had hU hbU hnb hwi f7 HF
      have hcase : ((wi == 0) = true ∨ ((wi == 0) = false ∧ nb = false) ∨ ((wi == 0) = false ∧ nb = true ∧ 8192 < of) ∨ ((wi == 0) = false ∧ nb = true ∧ of ≤ 8192 ∧ of < F) ∨ ((wi == 0) = false ∧ nb = true ∧ of ≤ 8192 ∧ F ≤ of ∧ N < of + wi)) ∨ ((wi == 0) = false ∧ nb = true ∧ of ≤ 8192 ∧ F ≤ of ∧ of + wi ≤ N) := by
        by_cases g1 : wi = 0
        · exact .inl (.inl (by simp [g1]))
        · have g1' : (wi == 0) = false := by simpa using g1
          cases nb with
          | false => exact .inl (.inr (.inl ⟨g1', rfl⟩))
          | true =>
            rcases Int.lt_or_le 8192 of with g2 | g2
            · exact .inl (.inr (.inr (.inl ⟨g1', rfl, g2⟩)))
            · rcases Int.lt_or_le of F with g3 | g3
              · exact .inl (.inr (.inr (.inr (.inl ⟨g1', rfl, g2, g3⟩))))
              · rcases Int.lt_or_le N (of + wi) with g4 | g4
                · exact .inl (.inr (.inr (.inr (.inr ⟨g1', rfl, g2, g3, g4⟩))))
                · exact .inr ⟨g1', rfl, g2, g3, g4⟩
      rcases hcase with hbad | ⟨g1, rfl, g2, g3, g4⟩
      · have HF2 : Hid (relsOk N l = false) := Lib.hid (by
          unfold relsOk
          rw [allN_false (k := k) (by rw [← HN.out]; exact hlt) (by
            rw [HR.out]
            rcases hbad with g | ⟨g, rfl⟩ | ⟨g, rfl, g2⟩ | ⟨g, rfl, g2, g3⟩ | ⟨g, rfl, g2, g3, g4⟩
            · rw [decide_eq_false, Bool.false_and]
              rintro ⟨q1, q2, q3⟩
              exact q1 (by simpa using g)
            · rw [Bool.and_false]
            · rw [decide_eq_false, Bool.false_and]
              omega
            · rw [decide_eq_false, Bool.false_and]
              omega
            · rw [decide_eq_false, Bool.false_and]
              omega), Bool.and_false])
        clear HK HR HE
        rcases hbad with g | ⟨g, rfl⟩ | ⟨g, rfl, g2⟩ | ⟨g, rfl, g2, g3⟩ | ⟨g, rfl, g2, g3, g4⟩
        · go_wp2_with fail
          refine (HW.out _).mono ?_; rintro e w2 ⟨rfl, rfl⟩
          go_wp2_with fail
          go_ret
          exact ⟨ret_bool HF2.out.symm, HBa.out⟩
        all_goals
          go_wp2_with fail
          refine (HW.out _).mono ?_; rintro e w2 ⟨rfl, rfl⟩
          go_wp2_with fail
          refine (HI.out _).mono ?_; rintro e w2 ⟨rfl, rfl⟩
          go_wp2_with fail
          go_ret
          exact ⟨ret_bool HF2.out.symm, HBa.out⟩
      · have HK2 : Hid (∀ j, j < k + 1 → relOk N (endAt l j) (l.getD j Rl.nought) = true) := Lib.hid fun j hj => by
          by_cases he : j = k
          · subst he; rw [HR.out, Bool.and_true]; exact decide_eq_true ⟨by simpa using g1, g3, g4⟩
          · exact HK.out j (by omega)
        clear HK HR
        go_wp2_with fail
        refine (HW.out _).mono ?_; rintro e w2 ⟨rfl, rfl⟩
        go_wp2_with fail
        refine (HI.out _).mono ?_; rintro e w2 ⟨rfl, rfl⟩
        go_wp2_with fail
        clear b5 hcT
        go_roundw
        case rel => exact ⟨k + 1, by omega, by go_num, of + wi, rfl, by omega, by omega, Lib.hid HE.out.symm, HK2, HBa, HSa⟩
        case measure => simp [intOf]; omega
    · have hd : decide (k < n) = false := decide_eq_false hlt
      have HA : Hid (allN l.length (fun k => relOk N (endAt l k) (l.getD k Rl.nought)) = true) := Lib.hid (allN_true fun j hj => HK.out j (by rw [← HN.out] at hj; omega))
      clear hlt HK
      by_cases hb : n ≤ 1024
      · have hb2 : (n : Int) ≤ 1024 := by omega
        have HR : Hid (relsOk N l = true) := Lib.hid (by unfold relsOk; rw [HA.out, decide_eq_true (by rw [← HN.out]; exact hb)]; rfl)
        clear hb
        go_wp2
        go_ret
        exact ⟨ret_bool HR.out.symm, HB.out⟩
      · have hb2 : (1024 : Int) < (n : Int) := by omega
        have HR : Hid (relsOk N l = false) := Lib.hid (by unfold relsOk; rw [decide_eq_false (by rw [← HN.out]; exact hb)]; rfl)
        clear hb
        go_wp2
        go_ret
        exact ⟨ret_bool ((decide_eq_false (by omega)).trans HR.out.symm), HB.out⟩
end Go.Proofs.Ytbpdoiikleaidaa
end
