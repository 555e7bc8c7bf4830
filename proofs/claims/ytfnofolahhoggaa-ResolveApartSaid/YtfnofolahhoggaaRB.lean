/- The document's Sym: a symbol. -/
import Derived.Test.YtfnofolahhoggaaRA
set_option linter.unusedVariables false
set_option linter.unusedSimpArgs false
namespace Go.Proofs.Ytfnofolahhoggaa
open Go Go.RowKit Oj

/-- What a symbol's numbers are held to. -/
def headOk (bi ki sz L : Int) : Prop := (bi ≤ 2) ∧ (1 ≤ ki ∧ ki ≤ 3) ∧ 1 ≤ sz ∧ sz ≤ 8192 ∧ L ≤ sz ∧ (ki = 1 → L = sz ∧ sz % 8 = 0)
instance (bi ki sz L : Int) : Decidable (headOk bi ki sz L) := by unfold headOk; infer_instance
theorem head_sym (s : Sy) (h0 : 0 ≤ s.bind) : symOk s = (nameOk s.name && decide (headOk s.bind s.kind s.size s.bytes.length) && relsOk s.bytes.length s.rels && notesOk s.notes) := by
  have e : decide (headOk s.bind s.kind s.size s.bytes.length) = (bindOk s.bind && sykOk s.kind && sizeOk s.kind s.size s.bytes.length) := by
    rw [Bool.eq_iff_iff, decide_eq_true_iff]
    unfold bindOk sykOk sizeOk headOk
    simp only [decide_eq_true_eq, Bool.and_eq_true]
    omega
  unfold symOk
  rw [e]
  simp only [Bool.and_assoc]

set_option maxHeartbeats 8000000 in
set_option maxRecDepth 100000 in
theorem rsym_any (s : Sy) (h : syFits s) (v : Value) (w : World) (hA : SymAt w v s) : Calls Try.prog 38 #[v] w fun e w' => e = .returned (.bool (symOk s)) ∧ Below w.heap.size w w' := by
  obtain ⟨vr, vn, rfl, hR, hN⟩ := hA
  have hall := h
  obtain ⟨f1, ⟨f2, f3⟩, ⟨f4, f5⟩, ⟨f6, f7⟩, f8, f9, f10, f11, f12⟩ := h
  have H1 := Lib.hid (fun W => rname_any (tx s.name) (by rw [tx_size]; exact f1) W)
  rw [by_tx] at H1
  have HRl := Lib.hid (fun W (hq : Below w.heap.size w W) (h8 : s.bytes.length ≤ 8192) => rrels_any s hall h8 vr vn (by obtain ⟨a, c, rfl, _⟩ := hN; exact ⟨_, _, _, rfl⟩) W (hR.below hq))
  have HNt := Lib.hid (fun j (hj : j < s.notes.length) W => rnote_any (s.notes.getD j Nt.nought) (f12 j hj) W)
  obtain ⟨ar, cr, hvr, _⟩ := hR
  obtain ⟨an, cn, hvn, h3⟩ := hN
  obtain ⟨nr, hnr⟩ : ∃ nr, nr = s.rels.length := ⟨_, rfl⟩
  obtain ⟨l, hl⟩ : ∃ l, l = s.notes := ⟨_, rfl⟩
  rw [← hl] at hvn h3 HNt f10
  obtain ⟨n, hn⟩ : ∃ n, n = l.length := ⟨_, rfl⟩
  rw [← hnr] at hvr
  rw [← hn] at hvn h3 f10
  have HLen := Lib.hid hn
  obtain ⟨p1, e1⟩ : ∃ p, p = nameOk s.name := ⟨_, rfl⟩
  obtain ⟨p2, e2⟩ : ∃ p, p = decide (headOk s.bind s.kind s.size s.bytes.length) := ⟨_, rfl⟩
  obtain ⟨p3, e3⟩ : ∃ p, p = relsOk s.bytes.length s.rels := ⟨_, rfl⟩
  obtain ⟨E, hE⟩ : ∃ E, E = symOk s := ⟨_, rfl⟩
  have HE : Hid (E = (p1 && p2 && p3 && notesOk l)) := Lib.hid (by rw [hE, head_sym s f2, e1, e2, e3, hl])
  unfold syV at HRl
  rw [← hE]
  rw [← e1] at H1
  rw [← e3] at HRl
  obtain ⟨nm, gnm⟩ : ∃ x, x = tx s.name := ⟨_, rfl⟩
  obtain ⟨bi, gbi⟩ : ∃ x, x = s.bind := ⟨_, rfl⟩
  obtain ⟨ki, gki⟩ : ∃ x, x = s.kind := ⟨_, rfl⟩
  obtain ⟨sz, gsz⟩ : ∃ x, x = s.size := ⟨_, rfl⟩
  obtain ⟨by1, gby⟩ : ∃ x, x = tx s.bytes := ⟨_, rfl⟩
  have hby : (by1.size : Int) = (s.bytes.length : Int) := by rw [gby, tx_size]
  rw [← gnm] at H1
  rw [← hby, ← gbi, ← gki, ← gsz] at e2
  rw [← gbi] at f2 f3
  rw [← gki] at f4 f5
  rw [← gsz] at f6 f7
  rw [← gnm, ← gbi, ← gki, ← gsz, ← gby] at HRl ⊢
  have f8' : (by1.size : Int) ≤ 140737488355328 := by omega
  have H8 : Hid (by1.size ≤ 8192 → s.bytes.length ≤ 8192) := Lib.hid (by omega)
  have hni : (n : Int) ≤ 11728124029610 := by omega
  have H3 := Lib.hid h3
  have HP2 := Lib.hid e2
  clear hall f1 f8 f9 f10 f11 f12 e1 e2 e3 hE hnr hn hl gnm gbi gki gsz gby hby h3
  subst hvr hvn
  have HB0 := Lib.hid (below_new1 w (.cells #[.string nm, .int .u8 bi, .int .u8 ki, .int .u32 sz, .string by1, .slice ar nr cr, .slice an n cn] 50))
  have HX0 := Lib.hid (Blk.new w 50 [.string nm, .int .u8 bi, .int .u8 ki, .int .u32 sz, .string by1, .slice ar nr cr, .slice an n cn])
  cases p1 with
  | false =>
    have hr : E = false := by rw [HE.out]; simp
    subst hr
    go_enter Try.func38, Try.ntmps38
    go_wp2_with fail
    refine (H1.out _).mono ?_; rintro e w1 ⟨rfl, rfl⟩
    go_wp2_with fail
    go_ret
    exact ⟨rfl, HB0.out⟩
  | true =>
  by_cases hh : headOk bi ki sz by1.size
  · have hg : (ki == 1) = false ∨ ((ki == 1) = true ∧ ((by1.size : Int) != sz) = false ∧ (sz % 8 != 0) = false) := by
      by_cases hk : ki = 1
      · right
        have := hh.2.2.2.2.2 hk
        exact ⟨by simp [hk], by rw [bne_eq_false_iff_eq]; exact this.1, by rw [bne_eq_false_iff_eq]; exact this.2⟩
      · left; simpa using hk
    obtain ⟨g1, ⟨g2, g3⟩, g4, g5, g6, g7⟩ := hh
    have hp2 : p2 = true := by rw [HP2.out]; exact decide_eq_true ⟨g1, ⟨g2, g3⟩, g4, g5, g6, g7⟩
    subst hp2
    have H88 := Lib.hid (H8.out (by omega))
    clear g7 H8
    rcases hg with hg | ⟨hg, hg2, hg3⟩
    all_goals
      go_enter Try.func38, Try.ntmps38
      go_wp2_with fail
      refine (H1.out _).mono ?_; rintro e w1 ⟨rfl, rfl⟩
      go_wp2_with fail
      go_loopw [3] (fun i wr => ∃ k : Nat, (k : Int) ≤ n ∧ i = .int .i64 k ∧ Hid (∀ j, j < k → noteOk (l.getD j Nt.nought) = true) ∧ Hid (Below w.heap.size w wr) ∧ Hid (Blk wr w.heap.size 50 [.string nm, .int .u8 bi, .int .u8 ki, .int .u32 sz, .string by1, .slice ar nr cr, .slice an n cn])) (fun i _ => n - (intOf i).toNat)
      case atStart => exact ⟨0, by omega, rfl, Lib.hid fun j hj => absurd hj (by omega), HB0, HX0⟩
      case round =>
        clear HB0 HX0
        obtain ⟨k, hk, rfl, HK, HB, HX⟩ := hrel
        have b6 : wr.cell? ⟨w.heap.size, 6, none⟩ = some (.slice an n cn) := HX.out.cell 6
        by_cases hlt : k < n
        · obtain ⟨b, o, rfl, hbl, hcl⟩ := H3.out (by omega)
          obtain ⟨x, hx⟩ : ∃ x, x = l.getD k Nt.nought := ⟨_, rfl⟩
          have hL := ((hcl k hlt).below HB.out hbl)
          rw [← hx] at hL
          obtain ⟨c0, c1, c2⟩ := hL.nt
          have HI := Lib.hid (HNt.out k (by rw [← HLen.out]; exact hlt))
          have hbr : b < wr.heap.size := Nat.lt_of_lt_of_le hbl HB.out.size
          obtain ⟨q, hq⟩ : ∃ q, q = noteOk x := ⟨_, rfl⟩
          rw [← hx, ← hq, ntV_eq] at HI
          obtain ⟨kk, hkk⟩ : ∃ kk, kk = x.kind := ⟨_, rfl⟩
          obtain ⟨n1, hn1⟩ : ∃ nn, nn = x.n := ⟨_, rfl⟩
          obtain ⟨m1, hm1⟩ : ∃ mm, mm = x.m := ⟨_, rfl⟩
          rw [← hkk, ← hn1, ← hm1] at HI
          rw [← hkk] at c0
          rw [← hn1] at c1
          rw [← hm1] at c2
          have HQ : Hid (q = noteOk (l.getD k Nt.nought)) := Lib.hid (by rw [hq, hx])
          have hd : decide (k < n) = true := decide_eq_true hlt
          clear hcl hL hkk hn1 hm1 hq hx
          cases q with
          | true =>
            have HK2 : Hid (∀ j, j < k + 1 → noteOk (l.getD j Nt.nought) = true) := Lib.hid fun j hj => by
              by_cases he : j = k
              · subst he; exact HQ.out.symm
              · exact HK.out j (by omega)
            clear HK HQ
            go_wp2_with fail
            refine (HI.out _).mono ?_; rintro e w2 ⟨rfl, q2⟩
            have HB2 := Lib.hid (below_call HB.out q2)
            have HX2 := Lib.hid (HX.out.call q2)
            clear q2
            go_wp2_with fail
            clear b6
            go_roundw
            case rel => exact ⟨k + 1, by omega, by go_num, HK2, HB2, HX2⟩
            case measure => simp [intOf]; omega
          | false =>
            have hr : E = false := by
              rw [HE.out]
              unfold notesOk
              rw [allN_false (k := k) (by rw [← HLen.out]; exact hlt) HQ.out.symm]
              simp
            subst hr
            clear HK HQ
            go_wp2_with fail
            refine (HI.out _).mono ?_; rintro e w2 ⟨rfl, q2⟩
            have HB2 := Lib.hid (below_call HB.out q2)
            clear q2
            go_wp2_with fail
            go_ret
            exact ⟨rfl, HB2.out⟩
        · have hd : decide (k < n) = false := decide_eq_false hlt
          have HA : Hid (allN l.length (fun k => noteOk (l.getD k Nt.nought)) = true) := Lib.hid (allN_true fun j hj => HK.out j (by rw [← HLen.out] at hj; omega))
          obtain ⟨c0, c1, c2, c3, c4, c5, c6⟩ := HX.out.seven
          clear hlt HK b6
          go_wp2_with fail
          refine (HRl.out _ HB.out H88.out).mono ?_; rintro e w2 ⟨rfl, q2⟩
          have HB2 := Lib.hid (below_call HB.out q2)
          have HX2 := Lib.hid (HX.out.call q2)
          clear q2 c0 c1 c2 c3 c4 c5 c6
          have b6 : w2.cell? ⟨w.heap.size, 6, none⟩ = some (.slice an n cn) := HX2.out.cell 6
          cases p3 with
          | false =>
            have hr : E = false := by rw [HE.out]; simp
            subst hr
            go_wp2_with fail
            go_ret
            exact ⟨rfl, HB2.out⟩
          | true =>
            by_cases hb : n ≤ 8
            · have hb2 : (n : Int) ≤ 8 := by omega
              have hr : E = true := by rw [HE.out]; unfold notesOk; rw [HA.out, decide_eq_true (by rw [← HLen.out]; exact hb)]; rfl
              subst hr
              clear hb
              go_wp2_with fail
              go_ret
              exact ⟨rfl, HB2.out⟩
            · have hb2 : (8 : Int) < (n : Int) := by omega
              have hr : E = false := by rw [HE.out]; unfold notesOk; rw [decide_eq_false (by rw [← HLen.out]; exact hb)]; rfl
              subst hr
              clear hb
              go_wp2_with fail
              go_ret
              exact ⟨ret_bool (decide_eq_false (by omega)), HB2.out⟩
  · have hp2 : p2 = false := by rw [HP2.out]; exact decide_eq_false hh
    have hr : E = false := by rw [HE.out, hp2]; simp
    subst hr
    have HH := Lib.hid hh
    clear hh hp2 HP2
    go_enter Try.func38, Try.ntmps38
    go_wp2_with fail
    refine (H1.out _).mono ?_; rintro e w1 ⟨rfl, rfl⟩
    go_wp2_with fail
    all_goals first
      | (go_ret; exact ⟨rfl, below_new1 _ _⟩)
      | (exfalso; have hx := HH.out; unfold headOk at hx; omega)
      | (exfalso; have hx := HH.out; unfold headOk at hx; clear H1 HRl HNt HLen HE H8 H3 HB0 HX0 HH; simp only [beq_iff_eq, beq_eq_false_iff_ne, ne_eq, bne_iff_ne, bne_eq_false_iff_eq, decide_eq_true_eq, decide_eq_false_iff_not] at *; omega)
end Go.Proofs.Ytfnofolahhoggaa
