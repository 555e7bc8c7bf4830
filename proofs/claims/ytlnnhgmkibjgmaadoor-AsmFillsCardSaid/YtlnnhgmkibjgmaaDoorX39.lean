/- The maker's made, walked. -/
import Derived.Test.YtlnnhgmkibjgmaaDoorX37
import Derived.Test.YtlnnhgmkibjgmaaDoorX08
import Derived.Test.YtlnnhgmkibjgmaaDoorX03
import Derived.Deep.RegionHeld3
import Derived.Deep.DeepCutAuto
set_option linter.unusedVariables false
set_option linter.unusedSimpArgs false
namespace Go.Proofs.YtlnnhgmkibjgmaaDoor
open Go Go.RowKit Oj Al

set_option maxHeartbeats 16000000 in
set_option maxRecDepth 100000 in
theorem made_any (s : Sy) (nm bs : ByteArray) (bi ki sz : Int) (vr vn lb : Value) (LR : List Rl) (LN : List Nt) (W0 W : World) (g pr : Nat) (hP : Blk W pr 29 zS) (hs : syFits s) (hsv : s = ⟨by' nm, bi, ki, sz, by' bs, LR, LN⟩) (hB : Below W0.heap.size W0 W) (hg : W0.heap.size ≤ g)
    (hG : Blk W g 65 [.string nm, .int .u8 bi, .int .u8 ki, .int .u32 sz, .string bs, vr, vn, lb]) (hR : OwnR W W0.heap.size vr LR) (hN : NotesAt W0 vn LN) : Calls Tryd.prog 35 #[.pointer (some ⟨g, 0, none⟩)] W (MadP W0 pr s) := by
  obtain ⟨ar, cr, rfl⟩ := row_slice hR
  obtain ⟨an, cn, hvn⟩ : ∃ an cn, vn = .slice an LN.length cn := by obtain ⟨a, c, h, _⟩ := id hN; exact ⟨a, c, h⟩
  subst hvn
  have HNA : Hid (∀ wr, Below W0.heap.size W0 wr → NotesAt wr (.slice an LN.length cn) LN) := Lib.hid (fun wr h => SlC.below hN h (Nat.le_refl _))
  have HSY : Hid (∀ wr rs, MS W0 wr g pr rs nm bi ki sz bs (.slice ar LR.length cr) (.slice an LN.length cn) lb LR → Calls Tryd.prog 30 #[.agg #[.string nm, .int .u8 bi, .int .u8 ki, .int .u32 sz, .string bs, .slice ar LR.length cr, .slice an LN.length cn]] wr fun e w' => e = .returned (.int .i64 (okI (symOk s))) ∧ Below wr.heap.size wr w') := Lib.hid (fun wr rs h => osym_any _ s hs wr (by rw [hsv]; exact h.sym (HNA.out wr h.low)))
  have hs2 := hs
  rw [hsv] at hs2
  obtain ⟨f1, f2, f3, f4, f5, f6, f7, f8, f9⟩ := hs2
  have HC1 := Lib.hid (sclone_any nm f1)
  have HC2 := Lib.hid (sclone_any bs f5)
  have HC3 : Hid (∀ wr gs, Blk wr gs 22 [.slice an LN.length cn] → Below W0.heap.size W0 wr → Calls Tryd.prog 57 #[.slice (some ⟨gs, 0, none⟩) 1 1] wr (CatN wr LN)) := Lib.hid (fun wr gs h1 h2 => by
    have h := concatN_any [LN] (.slice (some ⟨gs, 0, none⟩) 1 1) wr ⟨fun _ => .slice an LN.length cn, ⟨_, _, rfl, fun _ => ⟨gs, 0, rfl, h1.lt, fun j hj i u hu => by
      obtain rfl : j = 0 := by simp at hj; exact hj
      rw [show (0 + 0 * 1 + i) = i by omega]
      exact (h1.cell i).trans hu⟩⟩, fun j hj => by
      obtain rfl : j = 0 := by simp at hj; exact hj
      exact HNA.out wr h2⟩ (by simpa using f7) (Nat.le_of_ble_eq_true rfl)
    have e : [LN].flatten = LN := by simp
    rw [e] at h
    exact h)
  have HLR : Hid (∀ i, i < LR.length → (LR.getD i Rl.nought).name.length ≤ 140737488355328) := Lib.hid (fun i hi => (f8 i hi).2.2.2)
  have HLL : Hid (LR.length * 32 ≤ 140737488355328) := Lib.hid f6
  have HFIN : Hid (∀ wr rs v2, MS W0 wr g pr rs nm bi ki sz bs (.slice ar LR.length cr) v2 lb LR → OwnN wr W0.heap.size v2 LN → symOk s = true → ∀ w', wr.grownBy w' (some rs) → MadP W0 pr s (.returned (.tuple #[.agg #[.string nm, .int .u8 bi, .int .u8 ki, .int .u32 sz, .string bs, .slice ar LR.length cr, v2], .int .i64 0])) w') := Lib.hid (fun wr rs v2 h hn hk w' hw => by
    have hb : Below W0.heap.size W0 w' := h.low.grown hw h.low.size (fun k hk => by cases hk; exact h.hrs)
    refine ⟨hb, h.out.grown hw (fun e => h.hpr (by injection e)), .inl ⟨hk, .slice ar LR.length cr, v2, ?_, ?_, ?_⟩⟩
    · rw [hsv]
      simp only [tx_by]
    · rw [hsv]
      exact World.ownsRow.kept h.row hw (.inr (row_block h.res h.row (by decide)))
    · rw [hsv]
      exact World.ownsRow.kept hn hw (.inr (row_block h.res hn (by decide))))
  have HNO : Hid (∀ w', symOk s = false → Below W0.heap.size W0 w' → Blk w' pr 29 zS → MadP W0 pr s (.returned (.tuple #[.agg #[.string ⟨#[]⟩, .int .u8 0, .int .u8 0, .int .u32 0, .string ⟨#[]⟩, .slice none 0 0, .slice none 0 0], .int .i64 2])) w') := Lib.hid (fun w' hk hb ho => ⟨hb, ho, .inr ⟨hk, rfl⟩⟩)
  have H0 : Hid (MS W0 (W.alloc (.cells #[.string ⟨#[]⟩, .int .u8 0, .int .u8 0, .int .u32 0, .string ⟨#[]⟩, .slice none 0 0, .slice none 0 0] 29)) g pr W.heap.size nm bi ki sz bs (.slice ar LR.length cr) (.slice an LN.length cn) lb LR) := Lib.hid ⟨below_call hB (below_new1 W _), Blk.new W 29 zS, hG.alloc _, row_below hR (below_new1 W _), hg, hB.size, hP.alloc _, Nat.ne_of_lt hP.lt⟩
  obtain ⟨okS, hokS⟩ : ∃ t, t = symOk s := ⟨_, rfl⟩
  rw [← hokS] at HSY HFIN HNO
  clear hP hs hsv hB hg hG hR hN hokS f1 f2 f3 f4 f5 f6 f7 f8 f9
  go_enter Tryd.func35, Tryd.ntmps35
  go_upto_region 1 with (fail)
  obtain ⟨rs, hrs⟩ : ∃ t, t = W.heap.size := ⟨_, rfl⟩
  obtain ⟨w0, hw0⟩ : ∃ t, t = W.alloc (.cells #[.string ⟨#[]⟩, .int .u8 0, .int .u8 0, .int .u32 0, .string ⟨#[]⟩, .slice none 0 0, .slice none 0 0] 29) := ⟨_, rfl⟩
  rw [← hw0] at H0 ⊢
  rw [← hrs] at H0 ⊢
  clear hw0 hrs
  have HS := Lib.hid (HSY.out _ _ H0.out)
  obtain ⟨y0, y1, y2, y3, y4, y5, y6, y7⟩ := H0.out.mak.eight
  go_wp2_with fail
  refine HS.out.mono ?_; rintro e w1 ⟨rfl, q⟩
  have H1 := Lib.hid (H0.out.below q)
  clear q H0 HS HSY y0 y1 y2 y3 y4 y5 y6 y7
  cases okS
  · have hk : okI false = 2 := rfl
    rw [hk]
    clear hk
    obtain ⟨x0, x1, x2, x3, x4, x5, x6⟩ := H1.out.res.seven
    obtain ⟨e0, e1, e2, e3, e4, e5, e6, _, elt⟩ := H1.out.res.free8
    have HM1 := Lib.hid (store7m (.string ⟨#[]⟩) (.int .u8 0) (.int .u8 0) (.int .u32 0) (.string ⟨#[]⟩) (.slice none 0 0) (.slice none 0 0) H1.out.res)
    have HLO := Lib.hid H1.out.low
    have HRS := Lib.hid H1.out.hrs
    have HPR := Lib.hid H1.out.out
    have HNP := Lib.hid H1.out.hpr
    clear H1
    go_wp2_with fail
    obtain ⟨k1, k2⟩ := HM1.out _ rfl
    refine bodyPost_ret (v := .tuple #[.agg #[.string ⟨#[]⟩, .int .u8 0, .int .u8 0, .int .u32 0, .string ⟨#[]⟩, .slice none 0 0, .slice none 0 0], .int .i64 2]) (res_sy_tmp Tryd.results35 _ _ rs _ _ _ _ _ _ _ _ rfl rfl k1) rfl ?_
    exact HNO.out _ trivial (HLO.out.grown k2 HLO.out.size (fun k hk => by cases hk; exact HRS.out)) (HPR.out.grown k2 (fun e => HNP.out (by injection e)))
  · have hk : okI true = 0 := rfl
    rw [hk]
    clear hk
    go_upto_region 4 with (fail)
    have HSS : Hid (∀ w' vv, MS W0 w' g pr rs nm bi ki sz bs (.slice ar LR.length cr) vv lb LR → w'.cell? ⟨g, 0, none⟩ = some (.string nm) ∧ w'.cell? ⟨g, 4, none⟩ = some (.string bs)) := Lib.hid (fun w' vv h => ⟨h.mak.cell 0, h.mak.cell 4⟩)
    have H2d : Hid (MS W0 w1.drew g pr rs nm bi ki sz bs (.slice ar LR.length cr) (.slice an LN.length cn) lb LR) := Lib.hid (H1.out.below (below_drewN w1 1))
    go_cut [] (fun wx => ∃ a2 c2, Hid (MS W0 wx g pr rs nm bi ki sz bs (.slice ar LR.length cr) (.slice a2 LN.length c2) lb LR) ∧ Hid (OwnN wx W0.heap.size (.slice a2 LN.length c2) LN))
    case first =>
      clear HFIN HNO HLR HNA
      refine wp_region_held_drew (S := fun w' => w'.cell? ⟨g, 0, none⟩ = some (.string nm) ∧ w'.cell? ⟨g, 4, none⟩ = some (.string bs)) (by kernel_rfl) (HSS.out _ _ H2d.out) (fun hSw => ?_)
      obtain ⟨w2, hw2⟩ : ∃ t, t = w1.drew := ⟨_, rfl⟩
      rw [← hw2] at H2d hSw ⊢
      have H2 := H2d
      clear hw2 H1 H2d
      refine wpAnyH_take (i := 0) (v := .pointer (some ⟨g, 0, none⟩)) rfl (by kernel_rfl) (by kernel_rfl) (by kernel_rfl) (fun _ _ _ h => h) (Or.inl ⟨by rfl, fun w hSw => by (try dsimp only at hSw); go_simp⟩) (by assumption) ?_
      try simp only [Act.put, List.setIfInBounds_toArray, List.set_cons_zero, List.set_cons_succ, List.getElem_toArray, List.getElem_cons_succ, List.getElem_cons_zero]
      refine wpAnyH_take (i := 1) (v := .pointer (some ⟨g, 0, none⟩)) rfl (by kernel_rfl) (by kernel_rfl) (by kernel_rfl) (fun _ _ _ h => h) (Or.inl ⟨by rfl, fun w hSw => by (try dsimp only at hSw); go_simp⟩) (by assumption) ?_
      try simp only [Act.put, List.setIfInBounds_toArray, List.set_cons_zero, List.set_cons_succ, List.getElem_toArray, List.getElem_cons_succ, List.getElem_cons_zero]
      refine wpAnyH_take (i := 2) (v := .pointer (some ⟨g, 0, none⟩)) rfl (by kernel_rfl) (by kernel_rfl) (by kernel_rfl) (fun _ _ _ h => h) (Or.inl ⟨by rfl, fun w hSw => by (try dsimp only at hSw); go_simp⟩) (by assumption) ?_
      try simp only [Act.put, List.setIfInBounds_toArray, List.set_cons_zero, List.set_cons_succ, List.getElem_toArray, List.getElem_cons_succ, List.getElem_cons_zero]
      refine wpAnyH_take (i := 3) (v := .pointer (some ⟨g, 0, none⟩)) rfl (by kernel_rfl) (by kernel_rfl) (by kernel_rfl) (fun _ _ _ h => h) (Or.inl ⟨by rfl, fun w hSw => by (try dsimp only at hSw); go_simp⟩) (by assumption) ?_
      try simp only [Act.put, List.setIfInBounds_toArray, List.set_cons_zero, List.set_cons_succ, List.getElem_toArray, List.getElem_cons_succ, List.getElem_cons_zero]
      refine wpAnyH_take (i := 4) (v := .pointer (some ⟨g, 0, none⟩)) rfl (by kernel_rfl) (by kernel_rfl) (by kernel_rfl) (fun _ _ _ h => h) (Or.inl ⟨by rfl, fun w hSw => by (try dsimp only at hSw); go_simp⟩) (by assumption) ?_
      try simp only [Act.put, List.setIfInBounds_toArray, List.set_cons_zero, List.set_cons_succ, List.getElem_toArray, List.getElem_cons_succ, List.getElem_cons_zero]
      refine wpAnyH_take (i := 5) (v := .pointer (some ⟨g, 0, none⟩)) rfl (by kernel_rfl) (by kernel_rfl) (by kernel_rfl) (fun _ _ _ h => h) (Or.inl ⟨by rfl, fun w hSw => by (try dsimp only at hSw); go_simp⟩) (by assumption) ?_
      try simp only [Act.put, List.setIfInBounds_toArray, List.set_cons_zero, List.set_cons_succ, List.getElem_toArray, List.getElem_cons_succ, List.getElem_cons_zero]
      refine wpAnyH_take (i := 6) (v := .pointer (some ⟨g, 0, none⟩)) rfl (by kernel_rfl) (by kernel_rfl) (by kernel_rfl) (fun _ _ _ h => h) (Or.inl ⟨by rfl, fun w hSw => by (try dsimp only at hSw); go_simp⟩) (by assumption) ?_
      try simp only [Act.put, List.setIfInBounds_toArray, List.set_cons_zero, List.set_cons_succ, List.getElem_toArray, List.getElem_cons_succ, List.getElem_cons_zero]
      refine wpAnyH_take (i := 7) (v := .string nm) rfl (by kernel_rfl) (by kernel_rfl) (by kernel_rfl) (fun _ _ _ h => h) (Or.inl ⟨by rfl, fun w hSw => by (try dsimp only at hSw); go_simp⟩) (by assumption) ?_
      try simp only [Act.put, List.setIfInBounds_toArray, List.set_cons_zero, List.set_cons_succ, List.getElem_toArray, List.getElem_cons_succ, List.getElem_cons_zero]
      refine wpAnyH_take (i := 9) (v := .pointer (some ⟨g, 0, none⟩)) rfl (by kernel_rfl) (by kernel_rfl) (by kernel_rfl) (fun _ _ _ h => h) (Or.inl ⟨by rfl, fun w hSw => by (try dsimp only at hSw); go_simp⟩) (by assumption) ?_
      try simp only [Act.put, List.setIfInBounds_toArray, List.set_cons_zero, List.set_cons_succ, List.getElem_toArray, List.getElem_cons_succ, List.getElem_cons_zero]
      refine wpAnyH_take (i := 10) (v := .pointer (some ⟨g, 0, none⟩)) rfl (by kernel_rfl) (by kernel_rfl) (by kernel_rfl) (fun _ _ _ h => h) (Or.inl ⟨by rfl, fun w hSw => by (try dsimp only at hSw); go_simp⟩) (by assumption) ?_
      try simp only [Act.put, List.setIfInBounds_toArray, List.set_cons_zero, List.set_cons_succ, List.getElem_toArray, List.getElem_cons_succ, List.getElem_cons_zero]
      refine wpAnyH_take (i := 11) (v := .pointer (some ⟨g, 0, none⟩)) rfl (by kernel_rfl) (by kernel_rfl) (by kernel_rfl) (fun _ _ _ h => h) (Or.inl ⟨by rfl, fun w hSw => by (try dsimp only at hSw); go_simp⟩) (by assumption) ?_
      try simp only [Act.put, List.setIfInBounds_toArray, List.set_cons_zero, List.set_cons_succ, List.getElem_toArray, List.getElem_cons_succ, List.getElem_cons_zero]
      refine wpAnyH_take (i := 12) (v := .pointer (some ⟨g, 4, none⟩)) rfl (by kernel_rfl) (by kernel_rfl) (by kernel_rfl) (fun _ _ _ h => h) (Or.inl ⟨by rfl, fun w hSw => by (try dsimp only at hSw); go_simp⟩) (by assumption) ?_
      try simp only [Act.put, List.setIfInBounds_toArray, List.set_cons_zero, List.set_cons_succ, List.getElem_toArray, List.getElem_cons_succ, List.getElem_cons_zero]
      refine wpAnyH_take (i := 13) (v := .string bs) rfl (by kernel_rfl) (by kernel_rfl) (by kernel_rfl) (fun _ _ _ h => h) (Or.inl ⟨by rfl, fun w hSw => by (try dsimp only at hSw); go_simp⟩) (by assumption) ?_
      try simp only [Act.put, List.setIfInBounds_toArray, List.set_cons_zero, List.set_cons_succ, List.getElem_toArray, List.getElem_cons_succ, List.getElem_cons_zero]
      refine wpAnyH_take (i := 15) (v := .pointer (some ⟨g, 0, none⟩)) rfl (by kernel_rfl) (by kernel_rfl) (by kernel_rfl) (fun _ _ _ h => h) (Or.inl ⟨by rfl, fun w hSw => by (try dsimp only at hSw); go_simp⟩) (by assumption) ?_
      try simp only [Act.put, List.setIfInBounds_toArray, List.set_cons_zero, List.set_cons_succ, List.getElem_toArray, List.getElem_cons_succ, List.getElem_cons_zero]
      refine wpAnyH_take (i := 16) (v := .pointer (some ⟨g, 0, none⟩)) rfl (by kernel_rfl) (by kernel_rfl) (by kernel_rfl) (fun _ _ _ h => h) (Or.inl ⟨by rfl, fun w hSw => by (try dsimp only at hSw); go_simp⟩) (by assumption) ?_
      try simp only [Act.put, List.setIfInBounds_toArray, List.set_cons_zero, List.set_cons_succ, List.getElem_toArray, List.getElem_cons_succ, List.getElem_cons_zero]
      refine wpAnyH_take (i := 17) (v := .pointer (some ⟨g, 0, none⟩)) rfl (by kernel_rfl) (by kernel_rfl) (by kernel_rfl) (fun _ _ _ h => h) (Or.inl ⟨by rfl, fun w hSw => by (try dsimp only at hSw); go_simp⟩) (by assumption) ?_
      try simp only [Act.put, List.setIfInBounds_toArray, List.set_cons_zero, List.set_cons_succ, List.getElem_toArray, List.getElem_cons_succ, List.getElem_cons_zero]
      refine wpAnyH_take (i := 18) (v := .pointer (some ⟨g, 6, none⟩)) rfl (by kernel_rfl) (by kernel_rfl) (by kernel_rfl) (fun _ _ _ h => h) (Or.inl ⟨by rfl, fun w hSw => by (try dsimp only at hSw); go_simp⟩) (by assumption) ?_
      try simp only [Act.put, List.setIfInBounds_toArray, List.set_cons_zero, List.set_cons_succ, List.getElem_toArray, List.getElem_cons_succ, List.getElem_cons_zero]
      refine wpAnyH_ready (rs := [8, 19]) (by kernel_rfl) (by simp) ?_
      refine (AllReadyH.cons (o := _) rfl (fun K hK => ?_) (AllReadyH.cons (o := _) rfl (fun K hK => ?_) AllReadyH.nil))
      · go_simp
        refine (HC1.out _).mono ?_; rintro e w3 ⟨rfl, q⟩
        have H3 := Lib.hid (H2.out.below q)
        clear q H2
        go_wp2_with fail
        refine hK.out _ _ (HSS.out _ _ H3.out) (fun hSw => ?_)
        clear hK K
        try simp only [Act.put, List.setIfInBounds_toArray, List.set_cons_zero, List.set_cons_succ, List.getElem_toArray, List.getElem_cons_succ, List.getElem_cons_zero]
        refine wpAnyH_ready (rs := [14, 19]) (by kernel_rfl) (by simp) ?_
        refine (AllReadyH.cons (o := _) rfl (fun K hK => ?_) (AllReadyH.cons (o := _) rfl (fun K hK => ?_) AllReadyH.nil))
        · go_simp
          refine (HC2.out _).mono ?_; rintro e w4 ⟨rfl, q⟩
          have H4 := Lib.hid (H3.out.below q)
          clear q H3
          go_wp2_with fail
          refine hK.out _ _ (HSS.out _ _ H4.out) (fun hSw => ?_)
          clear hK K
          try simp only [Act.put, List.setIfInBounds_toArray, List.set_cons_zero, List.set_cons_succ, List.getElem_toArray, List.getElem_cons_succ, List.getElem_cons_zero]
          refine wpAnyH_ready (rs := [19]) (by kernel_rfl) (by simp) ?_
          refine AllReadyH.cons (o := _) rfl (fun K hK => ?_) AllReadyH.nil
          have m5 := H4.out.mak.cell 6
          simp only [List.getElem?_cons_zero, List.getElem?_cons_succ] at m5
          go_simp
          refine hK.out _ _ (HSS.out _ _ H4.out) (fun hSw => ?_)
          clear hK K
          try simp only [Act.put, List.setIfInBounds_toArray, List.set_cons_zero, List.set_cons_succ, List.getElem_toArray, List.getElem_cons_succ, List.getElem_cons_zero]
          clear m5
          refine wpAnyH_ready (rs := [20]) (by kernel_rfl) (by simp) ?_
          refine AllReadyH.cons (o := _) rfl (fun K hK => ?_) AllReadyH.nil
          go_simp
          have G5 := Lib.hid (Blk.new w4 22 [.slice an LN.length cn])
          have H5 := Lib.hid (H4.out.below (below_new1 w4 (.cells #[.slice an LN.length cn] 22)))
          clear H4
          refine hK.out _ _ (HSS.out _ _ H5.out) (fun hSw => ?_)
          clear hK K
          try simp only [Act.put, List.setIfInBounds_toArray, List.set_cons_zero, List.set_cons_succ, List.getElem_toArray, List.getElem_cons_succ, List.getElem_cons_zero]
          obtain ⟨w5, hw5⟩ : ∃ t, t = w4.alloc (.cells #[.slice an LN.length cn] 22) := ⟨_, rfl⟩
          obtain ⟨gs, hgs⟩ : ∃ t, t = w4.heap.size := ⟨_, rfl⟩
          rw [← hw5] at G5 H5 hSw ⊢
          rw [← hgs] at G5 ⊢
          clear hw5 hgs
          refine wpAnyH_ready (rs := [21]) (by kernel_rfl) (by simp) ?_
          refine AllReadyH.cons (o := _) rfl (fun K hK => ?_) AllReadyH.nil
          go_simp
          refine (HC3.out _ _ G5.out H5.out.low).mono ?_; rintro e w6 ⟨v2, rfl, hr6, q⟩
          have H6 := Lib.hid (H5.out.below q)
          obtain ⟨a2, c2, hv2⟩ := row_slice hr6
          subst hv2
          have V6 : Hid (OwnN w6 W0.heap.size (.slice a2 LN.length c2) LN) := Lib.hid (row_weak hr6 H5.out.low.size)
          clear q H5 hr6 G5
          go_wp2_with fail
          refine hK.out _ _ (HSS.out _ _ H6.out) (fun hSw => ?_)
          clear hK K
          try simp only [Act.put, List.setIfInBounds_toArray, List.set_cons_zero, List.set_cons_succ, List.getElem_toArray, List.getElem_cons_succ, List.getElem_cons_zero]
          refine wpAnyH_take (i := 22) (v := .pointer (some ⟨g, 0, none⟩)) rfl (by kernel_rfl) (by kernel_rfl) (by kernel_rfl) (fun _ _ _ h => h) (Or.inl ⟨by rfl, fun w hSw => by (try dsimp only at hSw); go_simp⟩) (by assumption) ?_
          try simp only [Act.put, List.setIfInBounds_toArray, List.set_cons_zero, List.set_cons_succ, List.getElem_toArray, List.getElem_cons_succ, List.getElem_cons_zero]
          refine wpAnyH_take (i := 23) (v := .pointer (some ⟨g, 0, none⟩)) rfl (by kernel_rfl) (by kernel_rfl) (by kernel_rfl) (fun _ _ _ h => h) (Or.inl ⟨by rfl, fun w hSw => by (try dsimp only at hSw); go_simp⟩) (by assumption) ?_
          try simp only [Act.put, List.setIfInBounds_toArray, List.set_cons_zero, List.set_cons_succ, List.getElem_toArray, List.getElem_cons_succ, List.getElem_cons_zero]
          refine wpAnyH_take (i := 24) (v := .pointer (some ⟨g, 0, none⟩)) rfl (by kernel_rfl) (by kernel_rfl) (by kernel_rfl) (fun _ _ _ h => h) (Or.inl ⟨by rfl, fun w hSw => by (try dsimp only at hSw); go_simp⟩) (by assumption) ?_
          try simp only [Act.put, List.setIfInBounds_toArray, List.set_cons_zero, List.set_cons_succ, List.getElem_toArray, List.getElem_cons_succ, List.getElem_cons_zero]
          refine wpAnyH_ready (rs := [25]) (by kernel_rfl) (by simp) ?_
          refine AllReadyH.cons (o := _) rfl (fun K hK => ?_) AllReadyH.nil
          have e0 : w6.frozen? ⟨g, 0, none⟩ = false := H6.out.mak.frozen 0
          have e1 : g < w6.heap.size := H6.out.mak.lt
          have e2 := H6.out.mak.cell 0
          simp only [List.getElem?_cons_zero, List.getElem?_cons_succ] at e2
          go_simp
          have H7 := Lib.hid (H6.out.setN)
          have V7 : Hid (OwnN (w6.setCell ⟨g, 0, none⟩ (.string nm)) W0.heap.size (.slice a2 LN.length c2) LN) := Lib.hid (World.ownsRow.kept V6.out (grown_set w6 g 0 _) (.inr (row_block H6.out.mak V6.out (by decide))))
          clear e0 e1 e2 H6 V6
          refine hK.out _ _ (HSS.out _ _ H7.out) (fun hSw => ?_)
          clear hK K
          try simp only [Act.put, List.setIfInBounds_toArray, List.set_cons_zero, List.set_cons_succ, List.getElem_toArray, List.getElem_cons_succ, List.getElem_cons_zero]
          obtain ⟨w7, hw7⟩ : ∃ t, t = w6.setCell ⟨g, 0, none⟩ (.string nm) := ⟨_, rfl⟩
          rw [← hw7] at H7 V7 hSw ⊢
          clear hw7
          refine wpAnyH_take (i := 26) (v := .pointer (some ⟨g, 0, none⟩)) rfl (by kernel_rfl) (by kernel_rfl) (by kernel_rfl) (fun _ _ _ h => h) (Or.inl ⟨by rfl, fun w hSw => by (try dsimp only at hSw); go_simp⟩) (by assumption) ?_
          try simp only [Act.put, List.setIfInBounds_toArray, List.set_cons_zero, List.set_cons_succ, List.getElem_toArray, List.getElem_cons_succ, List.getElem_cons_zero]
          refine wpAnyH_take (i := 27) (v := .pointer (some ⟨g, 0, none⟩)) rfl (by kernel_rfl) (by kernel_rfl) (by kernel_rfl) (fun _ _ _ h => h) (Or.inl ⟨by rfl, fun w hSw => by (try dsimp only at hSw); go_simp⟩) (by assumption) ?_
          try simp only [Act.put, List.setIfInBounds_toArray, List.set_cons_zero, List.set_cons_succ, List.getElem_toArray, List.getElem_cons_succ, List.getElem_cons_zero]
          refine wpAnyH_take (i := 28) (v := .pointer (some ⟨g, 4, none⟩)) rfl (by kernel_rfl) (by kernel_rfl) (by kernel_rfl) (fun _ _ _ h => h) (Or.inl ⟨by rfl, fun w hSw => by (try dsimp only at hSw); go_simp⟩) (by assumption) ?_
          try simp only [Act.put, List.setIfInBounds_toArray, List.set_cons_zero, List.set_cons_succ, List.getElem_toArray, List.getElem_cons_succ, List.getElem_cons_zero]
          refine wpAnyH_ready (rs := [29]) (by kernel_rfl) (by simp) ?_
          refine AllReadyH.cons (o := _) rfl (fun K hK => ?_) AllReadyH.nil
          have e0 : w7.frozen? ⟨g, 4, none⟩ = false := H7.out.mak.frozen 4
          have e1 : g < w7.heap.size := H7.out.mak.lt
          have e2 := H7.out.mak.cell 4
          simp only [List.getElem?_cons_zero, List.getElem?_cons_succ] at e2
          go_simp
          have H8 := Lib.hid (H7.out.setB)
          have V8 : Hid (OwnN (w7.setCell ⟨g, 4, none⟩ (.string bs)) W0.heap.size (.slice a2 LN.length c2) LN) := Lib.hid (World.ownsRow.kept V7.out (grown_set w7 g 4 _) (.inr (row_block H7.out.mak V7.out (by decide))))
          clear e0 e1 e2 H7 V7
          refine hK.out _ _ (HSS.out _ _ H8.out) (fun hSw => ?_)
          clear hK K
          try simp only [Act.put, List.setIfInBounds_toArray, List.set_cons_zero, List.set_cons_succ, List.getElem_toArray, List.getElem_cons_succ, List.getElem_cons_zero]
          obtain ⟨w8, hw8⟩ : ∃ t, t = w7.setCell ⟨g, 4, none⟩ (.string bs) := ⟨_, rfl⟩
          rw [← hw8] at H8 V8 hSw ⊢
          clear hw8
          refine wpAnyH_take (i := 30) (v := .pointer (some ⟨g, 0, none⟩)) rfl (by kernel_rfl) (by kernel_rfl) (by kernel_rfl) (fun _ _ _ h => h) (Or.inl ⟨by rfl, fun w hSw => by (try dsimp only at hSw); go_simp⟩) (by assumption) ?_
          try simp only [Act.put, List.setIfInBounds_toArray, List.set_cons_zero, List.set_cons_succ, List.getElem_toArray, List.getElem_cons_succ, List.getElem_cons_zero]
          refine wpAnyH_take (i := 31) (v := .pointer (some ⟨g, 0, none⟩)) rfl (by kernel_rfl) (by kernel_rfl) (by kernel_rfl) (fun _ _ _ h => h) (Or.inl ⟨by rfl, fun w hSw => by (try dsimp only at hSw); go_simp⟩) (by assumption) ?_
          try simp only [Act.put, List.setIfInBounds_toArray, List.set_cons_zero, List.set_cons_succ, List.getElem_toArray, List.getElem_cons_succ, List.getElem_cons_zero]
          refine wpAnyH_take (i := 32) (v := .pointer (some ⟨g, 6, none⟩)) rfl (by kernel_rfl) (by kernel_rfl) (by kernel_rfl) (fun _ _ _ h => h) (Or.inl ⟨by rfl, fun w hSw => by (try dsimp only at hSw); go_simp⟩) (by assumption) ?_
          try simp only [Act.put, List.setIfInBounds_toArray, List.set_cons_zero, List.set_cons_succ, List.getElem_toArray, List.getElem_cons_succ, List.getElem_cons_zero]
          refine wpAnyH_ready (rs := [33]) (by kernel_rfl) (by simp) ?_
          refine AllReadyH.cons (o := _) rfl (fun K hK => ?_) AllReadyH.nil
          have e0 : w8.frozen? ⟨g, 6, none⟩ = false := H8.out.mak.frozen 6
          have e1 : g < w8.heap.size := H8.out.mak.lt
          have e2 := H8.out.mak.cell 6
          simp only [List.getElem?_cons_zero, List.getElem?_cons_succ] at e2
          go_simp
          have H9 := Lib.hid (H8.out.setV (.slice a2 LN.length c2))
          have V9 : Hid (OwnN (w8.setCell ⟨g, 6, none⟩ (.slice a2 LN.length c2)) W0.heap.size (.slice a2 LN.length c2) LN) := Lib.hid (World.ownsRow.kept V8.out (grown_set w8 g 6 _) (.inr (row_block H8.out.mak V8.out (by decide))))
          clear e0 e1 e2 H8 V8
          refine hK.out _ _ (HSS.out _ _ H9.out) (fun hSw => ?_)
          clear hK K
          try simp only [Act.put, List.setIfInBounds_toArray, List.set_cons_zero, List.set_cons_succ, List.getElem_toArray, List.getElem_cons_succ, List.getElem_cons_zero]
          obtain ⟨w9, hw9⟩ : ∃ t, t = w8.setCell ⟨g, 6, none⟩ (.slice a2 LN.length c2) := ⟨_, rfl⟩
          rw [← hw9] at H9 V9 hSw ⊢
          clear hw9
          refine wpAnyH_done (by kernel_rfl) ?_ _
          go_wp2_with fail
          go_meet
          exact ⟨a2, c2, H9, V9⟩
        · have m5 := H3.out.mak.cell 6
          simp only [List.getElem?_cons_zero, List.getElem?_cons_succ] at m5
          go_simp
          refine hK.out _ _ (HSS.out _ _ H3.out) (fun hSw => ?_)
          clear hK K
          try simp only [Act.put, List.setIfInBounds_toArray, List.set_cons_zero, List.set_cons_succ, List.getElem_toArray, List.getElem_cons_succ, List.getElem_cons_zero]
          clear m5
          refine wpAnyH_ready (rs := [14, 20]) (by kernel_rfl) (by simp) ?_
          refine (AllReadyH.cons (o := _) rfl (fun K hK => ?_) (AllReadyH.cons (o := _) rfl (fun K hK => ?_) AllReadyH.nil))
          · go_simp
            refine (HC2.out _).mono ?_; rintro e w4 ⟨rfl, q⟩
            have H4 := Lib.hid (H3.out.below q)
            clear q H3
            go_wp2_with fail
            refine hK.out _ _ (HSS.out _ _ H4.out) (fun hSw => ?_)
            clear hK K
            try simp only [Act.put, List.setIfInBounds_toArray, List.set_cons_zero, List.set_cons_succ, List.getElem_toArray, List.getElem_cons_succ, List.getElem_cons_zero]
            refine wpAnyH_ready (rs := [20]) (by kernel_rfl) (by simp) ?_
            refine AllReadyH.cons (o := _) rfl (fun K hK => ?_) AllReadyH.nil
            go_simp
            have G5 := Lib.hid (Blk.new w4 22 [.slice an LN.length cn])
            have H5 := Lib.hid (H4.out.below (below_new1 w4 (.cells #[.slice an LN.length cn] 22)))
            clear H4
            refine hK.out _ _ (HSS.out _ _ H5.out) (fun hSw => ?_)
            clear hK K
            try simp only [Act.put, List.setIfInBounds_toArray, List.set_cons_zero, List.set_cons_succ, List.getElem_toArray, List.getElem_cons_succ, List.getElem_cons_zero]
            obtain ⟨w5, hw5⟩ : ∃ t, t = w4.alloc (.cells #[.slice an LN.length cn] 22) := ⟨_, rfl⟩
            obtain ⟨gs, hgs⟩ : ∃ t, t = w4.heap.size := ⟨_, rfl⟩
            rw [← hw5] at G5 H5 hSw ⊢
            rw [← hgs] at G5 ⊢
            clear hw5 hgs
            refine wpAnyH_ready (rs := [21]) (by kernel_rfl) (by simp) ?_
            refine AllReadyH.cons (o := _) rfl (fun K hK => ?_) AllReadyH.nil
            go_simp
            refine (HC3.out _ _ G5.out H5.out.low).mono ?_; rintro e w6 ⟨v2, rfl, hr6, q⟩
            have H6 := Lib.hid (H5.out.below q)
            obtain ⟨a2, c2, hv2⟩ := row_slice hr6
            subst hv2
            have V6 : Hid (OwnN w6 W0.heap.size (.slice a2 LN.length c2) LN) := Lib.hid (row_weak hr6 H5.out.low.size)
            clear q H5 hr6 G5
            go_wp2_with fail
            refine hK.out _ _ (HSS.out _ _ H6.out) (fun hSw => ?_)
            clear hK K
            try simp only [Act.put, List.setIfInBounds_toArray, List.set_cons_zero, List.set_cons_succ, List.getElem_toArray, List.getElem_cons_succ, List.getElem_cons_zero]
            refine wpAnyH_take (i := 22) (v := .pointer (some ⟨g, 0, none⟩)) rfl (by kernel_rfl) (by kernel_rfl) (by kernel_rfl) (fun _ _ _ h => h) (Or.inl ⟨by rfl, fun w hSw => by (try dsimp only at hSw); go_simp⟩) (by assumption) ?_
            try simp only [Act.put, List.setIfInBounds_toArray, List.set_cons_zero, List.set_cons_succ, List.getElem_toArray, List.getElem_cons_succ, List.getElem_cons_zero]
            refine wpAnyH_take (i := 23) (v := .pointer (some ⟨g, 0, none⟩)) rfl (by kernel_rfl) (by kernel_rfl) (by kernel_rfl) (fun _ _ _ h => h) (Or.inl ⟨by rfl, fun w hSw => by (try dsimp only at hSw); go_simp⟩) (by assumption) ?_
            try simp only [Act.put, List.setIfInBounds_toArray, List.set_cons_zero, List.set_cons_succ, List.getElem_toArray, List.getElem_cons_succ, List.getElem_cons_zero]
            refine wpAnyH_take (i := 24) (v := .pointer (some ⟨g, 0, none⟩)) rfl (by kernel_rfl) (by kernel_rfl) (by kernel_rfl) (fun _ _ _ h => h) (Or.inl ⟨by rfl, fun w hSw => by (try dsimp only at hSw); go_simp⟩) (by assumption) ?_
            try simp only [Act.put, List.setIfInBounds_toArray, List.set_cons_zero, List.set_cons_succ, List.getElem_toArray, List.getElem_cons_succ, List.getElem_cons_zero]
            refine wpAnyH_ready (rs := [25]) (by kernel_rfl) (by simp) ?_
            refine AllReadyH.cons (o := _) rfl (fun K hK => ?_) AllReadyH.nil
            have e0 : w6.frozen? ⟨g, 0, none⟩ = false := H6.out.mak.frozen 0
            have e1 : g < w6.heap.size := H6.out.mak.lt
            have e2 := H6.out.mak.cell 0
            simp only [List.getElem?_cons_zero, List.getElem?_cons_succ] at e2
            go_simp
            have H7 := Lib.hid (H6.out.setN)
            have V7 : Hid (OwnN (w6.setCell ⟨g, 0, none⟩ (.string nm)) W0.heap.size (.slice a2 LN.length c2) LN) := Lib.hid (World.ownsRow.kept V6.out (grown_set w6 g 0 _) (.inr (row_block H6.out.mak V6.out (by decide))))
            clear e0 e1 e2 H6 V6
            refine hK.out _ _ (HSS.out _ _ H7.out) (fun hSw => ?_)
            clear hK K
            try simp only [Act.put, List.setIfInBounds_toArray, List.set_cons_zero, List.set_cons_succ, List.getElem_toArray, List.getElem_cons_succ, List.getElem_cons_zero]
            obtain ⟨w7, hw7⟩ : ∃ t, t = w6.setCell ⟨g, 0, none⟩ (.string nm) := ⟨_, rfl⟩
            rw [← hw7] at H7 V7 hSw ⊢
            clear hw7
            refine wpAnyH_take (i := 26) (v := .pointer (some ⟨g, 0, none⟩)) rfl (by kernel_rfl) (by kernel_rfl) (by kernel_rfl) (fun _ _ _ h => h) (Or.inl ⟨by rfl, fun w hSw => by (try dsimp only at hSw); go_simp⟩) (by assumption) ?_
            try simp only [Act.put, List.setIfInBounds_toArray, List.set_cons_zero, List.set_cons_succ, List.getElem_toArray, List.getElem_cons_succ, List.getElem_cons_zero]
            refine wpAnyH_take (i := 27) (v := .pointer (some ⟨g, 0, none⟩)) rfl (by kernel_rfl) (by kernel_rfl) (by kernel_rfl) (fun _ _ _ h => h) (Or.inl ⟨by rfl, fun w hSw => by (try dsimp only at hSw); go_simp⟩) (by assumption) ?_
            try simp only [Act.put, List.setIfInBounds_toArray, List.set_cons_zero, List.set_cons_succ, List.getElem_toArray, List.getElem_cons_succ, List.getElem_cons_zero]
            refine wpAnyH_take (i := 28) (v := .pointer (some ⟨g, 4, none⟩)) rfl (by kernel_rfl) (by kernel_rfl) (by kernel_rfl) (fun _ _ _ h => h) (Or.inl ⟨by rfl, fun w hSw => by (try dsimp only at hSw); go_simp⟩) (by assumption) ?_
            try simp only [Act.put, List.setIfInBounds_toArray, List.set_cons_zero, List.set_cons_succ, List.getElem_toArray, List.getElem_cons_succ, List.getElem_cons_zero]
            refine wpAnyH_ready (rs := [29]) (by kernel_rfl) (by simp) ?_
            refine AllReadyH.cons (o := _) rfl (fun K hK => ?_) AllReadyH.nil
            have e0 : w7.frozen? ⟨g, 4, none⟩ = false := H7.out.mak.frozen 4
            have e1 : g < w7.heap.size := H7.out.mak.lt
            have e2 := H7.out.mak.cell 4
            simp only [List.getElem?_cons_zero, List.getElem?_cons_succ] at e2
            go_simp
            have H8 := Lib.hid (H7.out.setB)
            have V8 : Hid (OwnN (w7.setCell ⟨g, 4, none⟩ (.string bs)) W0.heap.size (.slice a2 LN.length c2) LN) := Lib.hid (World.ownsRow.kept V7.out (grown_set w7 g 4 _) (.inr (row_block H7.out.mak V7.out (by decide))))
            clear e0 e1 e2 H7 V7
            refine hK.out _ _ (HSS.out _ _ H8.out) (fun hSw => ?_)
            clear hK K
            try simp only [Act.put, List.setIfInBounds_toArray, List.set_cons_zero, List.set_cons_succ, List.getElem_toArray, List.getElem_cons_succ, List.getElem_cons_zero]
            obtain ⟨w8, hw8⟩ : ∃ t, t = w7.setCell ⟨g, 4, none⟩ (.string bs) := ⟨_, rfl⟩
            rw [← hw8] at H8 V8 hSw ⊢
            clear hw8
            refine wpAnyH_take (i := 30) (v := .pointer (some ⟨g, 0, none⟩)) rfl (by kernel_rfl) (by kernel_rfl) (by kernel_rfl) (fun _ _ _ h => h) (Or.inl ⟨by rfl, fun w hSw => by (try dsimp only at hSw); go_simp⟩) (by assumption) ?_
            try simp only [Act.put, List.setIfInBounds_toArray, List.set_cons_zero, List.set_cons_succ, List.getElem_toArray, List.getElem_cons_succ, List.getElem_cons_zero]
            refine wpAnyH_take (i := 31) (v := .pointer (some ⟨g, 0, none⟩)) rfl (by kernel_rfl) (by kernel_rfl) (by kernel_rfl) (fun _ _ _ h => h) (Or.inl ⟨by rfl, fun w hSw => by (try dsimp only at hSw); go_simp⟩) (by assumption) ?_
            try simp only [Act.put, List.setIfInBounds_toArray, List.set_cons_zero, List.set_cons_succ, List.getElem_toArray, List.getElem_cons_succ, List.getElem_cons_zero]
            refine wpAnyH_take (i := 32) (v := .pointer (some ⟨g, 6, none⟩)) rfl (by kernel_rfl) (by kernel_rfl) (by kernel_rfl) (fun _ _ _ h => h) (Or.inl ⟨by rfl, fun w hSw => by (try dsimp only at hSw); go_simp⟩) (by assumption) ?_
            try simp only [Act.put, List.setIfInBounds_toArray, List.set_cons_zero, List.set_cons_succ, List.getElem_toArray, List.getElem_cons_succ, List.getElem_cons_zero]
            refine wpAnyH_ready (rs := [33]) (by kernel_rfl) (by simp) ?_
            refine AllReadyH.cons (o := _) rfl (fun K hK => ?_) AllReadyH.nil
            have e0 : w8.frozen? ⟨g, 6, none⟩ = false := H8.out.mak.frozen 6
            have e1 : g < w8.heap.size := H8.out.mak.lt
            have e2 := H8.out.mak.cell 6
            simp only [List.getElem?_cons_zero, List.getElem?_cons_succ] at e2
            go_simp
            have H9 := Lib.hid (H8.out.setV (.slice a2 LN.length c2))
            have V9 : Hid (OwnN (w8.setCell ⟨g, 6, none⟩ (.slice a2 LN.length c2)) W0.heap.size (.slice a2 LN.length c2) LN) := Lib.hid (World.ownsRow.kept V8.out (grown_set w8 g 6 _) (.inr (row_block H8.out.mak V8.out (by decide))))
            clear e0 e1 e2 H8 V8
            refine hK.out _ _ (HSS.out _ _ H9.out) (fun hSw => ?_)
            clear hK K
            try simp only [Act.put, List.setIfInBounds_toArray, List.set_cons_zero, List.set_cons_succ, List.getElem_toArray, List.getElem_cons_succ, List.getElem_cons_zero]
            obtain ⟨w9, hw9⟩ : ∃ t, t = w8.setCell ⟨g, 6, none⟩ (.slice a2 LN.length c2) := ⟨_, rfl⟩
            rw [← hw9] at H9 V9 hSw ⊢
            clear hw9
            refine wpAnyH_done (by kernel_rfl) ?_ _
            go_wp2_with fail
            go_meet
            exact ⟨a2, c2, H9, V9⟩
          · go_simp
            have G4 := Lib.hid (Blk.new w3 22 [.slice an LN.length cn])
            have H4 := Lib.hid (H3.out.below (below_new1 w3 (.cells #[.slice an LN.length cn] 22)))
            clear H3
            refine hK.out _ _ (HSS.out _ _ H4.out) (fun hSw => ?_)
            clear hK K
            try simp only [Act.put, List.setIfInBounds_toArray, List.set_cons_zero, List.set_cons_succ, List.getElem_toArray, List.getElem_cons_succ, List.getElem_cons_zero]
            obtain ⟨w4, hw4⟩ : ∃ t, t = w3.alloc (.cells #[.slice an LN.length cn] 22) := ⟨_, rfl⟩
            obtain ⟨gs, hgs⟩ : ∃ t, t = w3.heap.size := ⟨_, rfl⟩
            rw [← hw4] at G4 H4 hSw ⊢
            rw [← hgs] at G4 ⊢
            clear hw4 hgs
            refine wpAnyH_ready (rs := [14]) (by kernel_rfl) (by simp) ?_
            refine AllReadyH.cons (o := _) rfl (fun K hK => ?_) AllReadyH.nil
            go_simp
            refine (HC2.out _).mono ?_; rintro e w5 ⟨rfl, q⟩
            have H5 := Lib.hid (H4.out.below q)
            have G5 := Lib.hid (G4.out.call q)
            clear q H4 G4
            go_wp2_with fail
            refine hK.out _ _ (HSS.out _ _ H5.out) (fun hSw => ?_)
            clear hK K
            try simp only [Act.put, List.setIfInBounds_toArray, List.set_cons_zero, List.set_cons_succ, List.getElem_toArray, List.getElem_cons_succ, List.getElem_cons_zero]
            refine wpAnyH_ready (rs := [21]) (by kernel_rfl) (by simp) ?_
            refine AllReadyH.cons (o := _) rfl (fun K hK => ?_) AllReadyH.nil
            go_simp
            refine (HC3.out _ _ G5.out H5.out.low).mono ?_; rintro e w6 ⟨v2, rfl, hr6, q⟩
            have H6 := Lib.hid (H5.out.below q)
            obtain ⟨a2, c2, hv2⟩ := row_slice hr6
            subst hv2
            have V6 : Hid (OwnN w6 W0.heap.size (.slice a2 LN.length c2) LN) := Lib.hid (row_weak hr6 H5.out.low.size)
            clear q H5 hr6 G5
            go_wp2_with fail
            refine hK.out _ _ (HSS.out _ _ H6.out) (fun hSw => ?_)
            clear hK K
            try simp only [Act.put, List.setIfInBounds_toArray, List.set_cons_zero, List.set_cons_succ, List.getElem_toArray, List.getElem_cons_succ, List.getElem_cons_zero]
            refine wpAnyH_take (i := 22) (v := .pointer (some ⟨g, 0, none⟩)) rfl (by kernel_rfl) (by kernel_rfl) (by kernel_rfl) (fun _ _ _ h => h) (Or.inl ⟨by rfl, fun w hSw => by (try dsimp only at hSw); go_simp⟩) (by assumption) ?_
            try simp only [Act.put, List.setIfInBounds_toArray, List.set_cons_zero, List.set_cons_succ, List.getElem_toArray, List.getElem_cons_succ, List.getElem_cons_zero]
            refine wpAnyH_take (i := 23) (v := .pointer (some ⟨g, 0, none⟩)) rfl (by kernel_rfl) (by kernel_rfl) (by kernel_rfl) (fun _ _ _ h => h) (Or.inl ⟨by rfl, fun w hSw => by (try dsimp only at hSw); go_simp⟩) (by assumption) ?_
            try simp only [Act.put, List.setIfInBounds_toArray, List.set_cons_zero, List.set_cons_succ, List.getElem_toArray, List.getElem_cons_succ, List.getElem_cons_zero]
            refine wpAnyH_take (i := 24) (v := .pointer (some ⟨g, 0, none⟩)) rfl (by kernel_rfl) (by kernel_rfl) (by kernel_rfl) (fun _ _ _ h => h) (Or.inl ⟨by rfl, fun w hSw => by (try dsimp only at hSw); go_simp⟩) (by assumption) ?_
            try simp only [Act.put, List.setIfInBounds_toArray, List.set_cons_zero, List.set_cons_succ, List.getElem_toArray, List.getElem_cons_succ, List.getElem_cons_zero]
            refine wpAnyH_ready (rs := [25]) (by kernel_rfl) (by simp) ?_
            refine AllReadyH.cons (o := _) rfl (fun K hK => ?_) AllReadyH.nil
            have e0 : w6.frozen? ⟨g, 0, none⟩ = false := H6.out.mak.frozen 0
            have e1 : g < w6.heap.size := H6.out.mak.lt
            have e2 := H6.out.mak.cell 0
            simp only [List.getElem?_cons_zero, List.getElem?_cons_succ] at e2
            go_simp
            have H7 := Lib.hid (H6.out.setN)
            have V7 : Hid (OwnN (w6.setCell ⟨g, 0, none⟩ (.string nm)) W0.heap.size (.slice a2 LN.length c2) LN) := Lib.hid (World.ownsRow.kept V6.out (grown_set w6 g 0 _) (.inr (row_block H6.out.mak V6.out (by decide))))
            clear e0 e1 e2 H6 V6
            refine hK.out _ _ (HSS.out _ _ H7.out) (fun hSw => ?_)
            clear hK K
            try simp only [Act.put, List.setIfInBounds_toArray, List.set_cons_zero, List.set_cons_succ, List.getElem_toArray, List.getElem_cons_succ, List.getElem_cons_zero]
            obtain ⟨w7, hw7⟩ : ∃ t, t = w6.setCell ⟨g, 0, none⟩ (.string nm) := ⟨_, rfl⟩
            rw [← hw7] at H7 V7 hSw ⊢
            clear hw7
            refine wpAnyH_take (i := 26) (v := .pointer (some ⟨g, 0, none⟩)) rfl (by kernel_rfl) (by kernel_rfl) (by kernel_rfl) (fun _ _ _ h => h) (Or.inl ⟨by rfl, fun w hSw => by (try dsimp only at hSw); go_simp⟩) (by assumption) ?_
            try simp only [Act.put, List.setIfInBounds_toArray, List.set_cons_zero, List.set_cons_succ, List.getElem_toArray, List.getElem_cons_succ, List.getElem_cons_zero]
            refine wpAnyH_take (i := 27) (v := .pointer (some ⟨g, 0, none⟩)) rfl (by kernel_rfl) (by kernel_rfl) (by kernel_rfl) (fun _ _ _ h => h) (Or.inl ⟨by rfl, fun w hSw => by (try dsimp only at hSw); go_simp⟩) (by assumption) ?_
            try simp only [Act.put, List.setIfInBounds_toArray, List.set_cons_zero, List.set_cons_succ, List.getElem_toArray, List.getElem_cons_succ, List.getElem_cons_zero]
            refine wpAnyH_take (i := 28) (v := .pointer (some ⟨g, 4, none⟩)) rfl (by kernel_rfl) (by kernel_rfl) (by kernel_rfl) (fun _ _ _ h => h) (Or.inl ⟨by rfl, fun w hSw => by (try dsimp only at hSw); go_simp⟩) (by assumption) ?_
            try simp only [Act.put, List.setIfInBounds_toArray, List.set_cons_zero, List.set_cons_succ, List.getElem_toArray, List.getElem_cons_succ, List.getElem_cons_zero]
            refine wpAnyH_ready (rs := [29]) (by kernel_rfl) (by simp) ?_
            refine AllReadyH.cons (o := _) rfl (fun K hK => ?_) AllReadyH.nil
            have e0 : w7.frozen? ⟨g, 4, none⟩ = false := H7.out.mak.frozen 4
            have e1 : g < w7.heap.size := H7.out.mak.lt
            have e2 := H7.out.mak.cell 4
            simp only [List.getElem?_cons_zero, List.getElem?_cons_succ] at e2
            go_simp
            have H8 := Lib.hid (H7.out.setB)
            have V8 : Hid (OwnN (w7.setCell ⟨g, 4, none⟩ (.string bs)) W0.heap.size (.slice a2 LN.length c2) LN) := Lib.hid (World.ownsRow.kept V7.out (grown_set w7 g 4 _) (.inr (row_block H7.out.mak V7.out (by decide))))
            clear e0 e1 e2 H7 V7
            refine hK.out _ _ (HSS.out _ _ H8.out) (fun hSw => ?_)
            clear hK K
            try simp only [Act.put, List.setIfInBounds_toArray, List.set_cons_zero, List.set_cons_succ, List.getElem_toArray, List.getElem_cons_succ, List.getElem_cons_zero]
            obtain ⟨w8, hw8⟩ : ∃ t, t = w7.setCell ⟨g, 4, none⟩ (.string bs) := ⟨_, rfl⟩
            rw [← hw8] at H8 V8 hSw ⊢
            clear hw8
            refine wpAnyH_take (i := 30) (v := .pointer (some ⟨g, 0, none⟩)) rfl (by kernel_rfl) (by kernel_rfl) (by kernel_rfl) (fun _ _ _ h => h) (Or.inl ⟨by rfl, fun w hSw => by (try dsimp only at hSw); go_simp⟩) (by assumption) ?_
            try simp only [Act.put, List.setIfInBounds_toArray, List.set_cons_zero, List.set_cons_succ, List.getElem_toArray, List.getElem_cons_succ, List.getElem_cons_zero]
            refine wpAnyH_take (i := 31) (v := .pointer (some ⟨g, 0, none⟩)) rfl (by kernel_rfl) (by kernel_rfl) (by kernel_rfl) (fun _ _ _ h => h) (Or.inl ⟨by rfl, fun w hSw => by (try dsimp only at hSw); go_simp⟩) (by assumption) ?_
            try simp only [Act.put, List.setIfInBounds_toArray, List.set_cons_zero, List.set_cons_succ, List.getElem_toArray, List.getElem_cons_succ, List.getElem_cons_zero]
            refine wpAnyH_take (i := 32) (v := .pointer (some ⟨g, 6, none⟩)) rfl (by kernel_rfl) (by kernel_rfl) (by kernel_rfl) (fun _ _ _ h => h) (Or.inl ⟨by rfl, fun w hSw => by (try dsimp only at hSw); go_simp⟩) (by assumption) ?_
            try simp only [Act.put, List.setIfInBounds_toArray, List.set_cons_zero, List.set_cons_succ, List.getElem_toArray, List.getElem_cons_succ, List.getElem_cons_zero]
            refine wpAnyH_ready (rs := [33]) (by kernel_rfl) (by simp) ?_
            refine AllReadyH.cons (o := _) rfl (fun K hK => ?_) AllReadyH.nil
            have e0 : w8.frozen? ⟨g, 6, none⟩ = false := H8.out.mak.frozen 6
            have e1 : g < w8.heap.size := H8.out.mak.lt
            have e2 := H8.out.mak.cell 6
            simp only [List.getElem?_cons_zero, List.getElem?_cons_succ] at e2
            go_simp
            have H9 := Lib.hid (H8.out.setV (.slice a2 LN.length c2))
            have V9 : Hid (OwnN (w8.setCell ⟨g, 6, none⟩ (.slice a2 LN.length c2)) W0.heap.size (.slice a2 LN.length c2) LN) := Lib.hid (World.ownsRow.kept V8.out (grown_set w8 g 6 _) (.inr (row_block H8.out.mak V8.out (by decide))))
            clear e0 e1 e2 H8 V8
            refine hK.out _ _ (HSS.out _ _ H9.out) (fun hSw => ?_)
            clear hK K
            try simp only [Act.put, List.setIfInBounds_toArray, List.set_cons_zero, List.set_cons_succ, List.getElem_toArray, List.getElem_cons_succ, List.getElem_cons_zero]
            obtain ⟨w9, hw9⟩ : ∃ t, t = w8.setCell ⟨g, 6, none⟩ (.slice a2 LN.length c2) := ⟨_, rfl⟩
            rw [← hw9] at H9 V9 hSw ⊢
            clear hw9
            refine wpAnyH_done (by kernel_rfl) ?_ _
            go_wp2_with fail
            go_meet
            exact ⟨a2, c2, H9, V9⟩
      · have m5 := H2.out.mak.cell 6
        simp only [List.getElem?_cons_zero, List.getElem?_cons_succ] at m5
        go_simp
        refine hK.out _ _ (HSS.out _ _ H2.out) (fun hSw => ?_)
        clear hK K
        try simp only [Act.put, List.setIfInBounds_toArray, List.set_cons_zero, List.set_cons_succ, List.getElem_toArray, List.getElem_cons_succ, List.getElem_cons_zero]
        clear m5
        refine wpAnyH_ready (rs := [8, 20]) (by kernel_rfl) (by simp) ?_
        refine (AllReadyH.cons (o := _) rfl (fun K hK => ?_) (AllReadyH.cons (o := _) rfl (fun K hK => ?_) AllReadyH.nil))
        · go_simp
          refine (HC1.out _).mono ?_; rintro e w3 ⟨rfl, q⟩
          have H3 := Lib.hid (H2.out.below q)
          clear q H2
          go_wp2_with fail
          refine hK.out _ _ (HSS.out _ _ H3.out) (fun hSw => ?_)
          clear hK K
          try simp only [Act.put, List.setIfInBounds_toArray, List.set_cons_zero, List.set_cons_succ, List.getElem_toArray, List.getElem_cons_succ, List.getElem_cons_zero]
          refine wpAnyH_ready (rs := [14, 20]) (by kernel_rfl) (by simp) ?_
          refine (AllReadyH.cons (o := _) rfl (fun K hK => ?_) (AllReadyH.cons (o := _) rfl (fun K hK => ?_) AllReadyH.nil))
          · go_simp
            refine (HC2.out _).mono ?_; rintro e w4 ⟨rfl, q⟩
            have H4 := Lib.hid (H3.out.below q)
            clear q H3
            go_wp2_with fail
            refine hK.out _ _ (HSS.out _ _ H4.out) (fun hSw => ?_)
            clear hK K
            try simp only [Act.put, List.setIfInBounds_toArray, List.set_cons_zero, List.set_cons_succ, List.getElem_toArray, List.getElem_cons_succ, List.getElem_cons_zero]
            refine wpAnyH_ready (rs := [20]) (by kernel_rfl) (by simp) ?_
            refine AllReadyH.cons (o := _) rfl (fun K hK => ?_) AllReadyH.nil
            go_simp
            have G5 := Lib.hid (Blk.new w4 22 [.slice an LN.length cn])
            have H5 := Lib.hid (H4.out.below (below_new1 w4 (.cells #[.slice an LN.length cn] 22)))
            clear H4
            refine hK.out _ _ (HSS.out _ _ H5.out) (fun hSw => ?_)
            clear hK K
            try simp only [Act.put, List.setIfInBounds_toArray, List.set_cons_zero, List.set_cons_succ, List.getElem_toArray, List.getElem_cons_succ, List.getElem_cons_zero]
            obtain ⟨w5, hw5⟩ : ∃ t, t = w4.alloc (.cells #[.slice an LN.length cn] 22) := ⟨_, rfl⟩
            obtain ⟨gs, hgs⟩ : ∃ t, t = w4.heap.size := ⟨_, rfl⟩
            rw [← hw5] at G5 H5 hSw ⊢
            rw [← hgs] at G5 ⊢
            clear hw5 hgs
            refine wpAnyH_ready (rs := [21]) (by kernel_rfl) (by simp) ?_
            refine AllReadyH.cons (o := _) rfl (fun K hK => ?_) AllReadyH.nil
            go_simp
            refine (HC3.out _ _ G5.out H5.out.low).mono ?_; rintro e w6 ⟨v2, rfl, hr6, q⟩
            have H6 := Lib.hid (H5.out.below q)
            obtain ⟨a2, c2, hv2⟩ := row_slice hr6
            subst hv2
            have V6 : Hid (OwnN w6 W0.heap.size (.slice a2 LN.length c2) LN) := Lib.hid (row_weak hr6 H5.out.low.size)
            clear q H5 hr6 G5
            go_wp2_with fail
            refine hK.out _ _ (HSS.out _ _ H6.out) (fun hSw => ?_)
            clear hK K
            try simp only [Act.put, List.setIfInBounds_toArray, List.set_cons_zero, List.set_cons_succ, List.getElem_toArray, List.getElem_cons_succ, List.getElem_cons_zero]
            refine wpAnyH_take (i := 22) (v := .pointer (some ⟨g, 0, none⟩)) rfl (by kernel_rfl) (by kernel_rfl) (by kernel_rfl) (fun _ _ _ h => h) (Or.inl ⟨by rfl, fun w hSw => by (try dsimp only at hSw); go_simp⟩) (by assumption) ?_
            try simp only [Act.put, List.setIfInBounds_toArray, List.set_cons_zero, List.set_cons_succ, List.getElem_toArray, List.getElem_cons_succ, List.getElem_cons_zero]
            refine wpAnyH_take (i := 23) (v := .pointer (some ⟨g, 0, none⟩)) rfl (by kernel_rfl) (by kernel_rfl) (by kernel_rfl) (fun _ _ _ h => h) (Or.inl ⟨by rfl, fun w hSw => by (try dsimp only at hSw); go_simp⟩) (by assumption) ?_
            try simp only [Act.put, List.setIfInBounds_toArray, List.set_cons_zero, List.set_cons_succ, List.getElem_toArray, List.getElem_cons_succ, List.getElem_cons_zero]
            refine wpAnyH_take (i := 24) (v := .pointer (some ⟨g, 0, none⟩)) rfl (by kernel_rfl) (by kernel_rfl) (by kernel_rfl) (fun _ _ _ h => h) (Or.inl ⟨by rfl, fun w hSw => by (try dsimp only at hSw); go_simp⟩) (by assumption) ?_
            try simp only [Act.put, List.setIfInBounds_toArray, List.set_cons_zero, List.set_cons_succ, List.getElem_toArray, List.getElem_cons_succ, List.getElem_cons_zero]
            refine wpAnyH_ready (rs := [25]) (by kernel_rfl) (by simp) ?_
            refine AllReadyH.cons (o := _) rfl (fun K hK => ?_) AllReadyH.nil
            have e0 : w6.frozen? ⟨g, 0, none⟩ = false := H6.out.mak.frozen 0
            have e1 : g < w6.heap.size := H6.out.mak.lt
            have e2 := H6.out.mak.cell 0
            simp only [List.getElem?_cons_zero, List.getElem?_cons_succ] at e2
            go_simp
            have H7 := Lib.hid (H6.out.setN)
            have V7 : Hid (OwnN (w6.setCell ⟨g, 0, none⟩ (.string nm)) W0.heap.size (.slice a2 LN.length c2) LN) := Lib.hid (World.ownsRow.kept V6.out (grown_set w6 g 0 _) (.inr (row_block H6.out.mak V6.out (by decide))))
            clear e0 e1 e2 H6 V6
            refine hK.out _ _ (HSS.out _ _ H7.out) (fun hSw => ?_)
            clear hK K
            try simp only [Act.put, List.setIfInBounds_toArray, List.set_cons_zero, List.set_cons_succ, List.getElem_toArray, List.getElem_cons_succ, List.getElem_cons_zero]
            obtain ⟨w7, hw7⟩ : ∃ t, t = w6.setCell ⟨g, 0, none⟩ (.string nm) := ⟨_, rfl⟩
            rw [← hw7] at H7 V7 hSw ⊢
            clear hw7
            refine wpAnyH_take (i := 26) (v := .pointer (some ⟨g, 0, none⟩)) rfl (by kernel_rfl) (by kernel_rfl) (by kernel_rfl) (fun _ _ _ h => h) (Or.inl ⟨by rfl, fun w hSw => by (try dsimp only at hSw); go_simp⟩) (by assumption) ?_
            try simp only [Act.put, List.setIfInBounds_toArray, List.set_cons_zero, List.set_cons_succ, List.getElem_toArray, List.getElem_cons_succ, List.getElem_cons_zero]
            refine wpAnyH_take (i := 27) (v := .pointer (some ⟨g, 0, none⟩)) rfl (by kernel_rfl) (by kernel_rfl) (by kernel_rfl) (fun _ _ _ h => h) (Or.inl ⟨by rfl, fun w hSw => by (try dsimp only at hSw); go_simp⟩) (by assumption) ?_
            try simp only [Act.put, List.setIfInBounds_toArray, List.set_cons_zero, List.set_cons_succ, List.getElem_toArray, List.getElem_cons_succ, List.getElem_cons_zero]
            refine wpAnyH_take (i := 28) (v := .pointer (some ⟨g, 4, none⟩)) rfl (by kernel_rfl) (by kernel_rfl) (by kernel_rfl) (fun _ _ _ h => h) (Or.inl ⟨by rfl, fun w hSw => by (try dsimp only at hSw); go_simp⟩) (by assumption) ?_
            try simp only [Act.put, List.setIfInBounds_toArray, List.set_cons_zero, List.set_cons_succ, List.getElem_toArray, List.getElem_cons_succ, List.getElem_cons_zero]
            refine wpAnyH_ready (rs := [29]) (by kernel_rfl) (by simp) ?_
            refine AllReadyH.cons (o := _) rfl (fun K hK => ?_) AllReadyH.nil
            have e0 : w7.frozen? ⟨g, 4, none⟩ = false := H7.out.mak.frozen 4
            have e1 : g < w7.heap.size := H7.out.mak.lt
            have e2 := H7.out.mak.cell 4
            simp only [List.getElem?_cons_zero, List.getElem?_cons_succ] at e2
            go_simp
            have H8 := Lib.hid (H7.out.setB)
            have V8 : Hid (OwnN (w7.setCell ⟨g, 4, none⟩ (.string bs)) W0.heap.size (.slice a2 LN.length c2) LN) := Lib.hid (World.ownsRow.kept V7.out (grown_set w7 g 4 _) (.inr (row_block H7.out.mak V7.out (by decide))))
            clear e0 e1 e2 H7 V7
            refine hK.out _ _ (HSS.out _ _ H8.out) (fun hSw => ?_)
            clear hK K
            try simp only [Act.put, List.setIfInBounds_toArray, List.set_cons_zero, List.set_cons_succ, List.getElem_toArray, List.getElem_cons_succ, List.getElem_cons_zero]
            obtain ⟨w8, hw8⟩ : ∃ t, t = w7.setCell ⟨g, 4, none⟩ (.string bs) := ⟨_, rfl⟩
            rw [← hw8] at H8 V8 hSw ⊢
            clear hw8
            refine wpAnyH_take (i := 30) (v := .pointer (some ⟨g, 0, none⟩)) rfl (by kernel_rfl) (by kernel_rfl) (by kernel_rfl) (fun _ _ _ h => h) (Or.inl ⟨by rfl, fun w hSw => by (try dsimp only at hSw); go_simp⟩) (by assumption) ?_
            try simp only [Act.put, List.setIfInBounds_toArray, List.set_cons_zero, List.set_cons_succ, List.getElem_toArray, List.getElem_cons_succ, List.getElem_cons_zero]
            refine wpAnyH_take (i := 31) (v := .pointer (some ⟨g, 0, none⟩)) rfl (by kernel_rfl) (by kernel_rfl) (by kernel_rfl) (fun _ _ _ h => h) (Or.inl ⟨by rfl, fun w hSw => by (try dsimp only at hSw); go_simp⟩) (by assumption) ?_
            try simp only [Act.put, List.setIfInBounds_toArray, List.set_cons_zero, List.set_cons_succ, List.getElem_toArray, List.getElem_cons_succ, List.getElem_cons_zero]
            refine wpAnyH_take (i := 32) (v := .pointer (some ⟨g, 6, none⟩)) rfl (by kernel_rfl) (by kernel_rfl) (by kernel_rfl) (fun _ _ _ h => h) (Or.inl ⟨by rfl, fun w hSw => by (try dsimp only at hSw); go_simp⟩) (by assumption) ?_
            try simp only [Act.put, List.setIfInBounds_toArray, List.set_cons_zero, List.set_cons_succ, List.getElem_toArray, List.getElem_cons_succ, List.getElem_cons_zero]
            refine wpAnyH_ready (rs := [33]) (by kernel_rfl) (by simp) ?_
            refine AllReadyH.cons (o := _) rfl (fun K hK => ?_) AllReadyH.nil
            have e0 : w8.frozen? ⟨g, 6, none⟩ = false := H8.out.mak.frozen 6
            have e1 : g < w8.heap.size := H8.out.mak.lt
            have e2 := H8.out.mak.cell 6
            simp only [List.getElem?_cons_zero, List.getElem?_cons_succ] at e2
            go_simp
            have H9 := Lib.hid (H8.out.setV (.slice a2 LN.length c2))
            have V9 : Hid (OwnN (w8.setCell ⟨g, 6, none⟩ (.slice a2 LN.length c2)) W0.heap.size (.slice a2 LN.length c2) LN) := Lib.hid (World.ownsRow.kept V8.out (grown_set w8 g 6 _) (.inr (row_block H8.out.mak V8.out (by decide))))
            clear e0 e1 e2 H8 V8
            refine hK.out _ _ (HSS.out _ _ H9.out) (fun hSw => ?_)
            clear hK K
            try simp only [Act.put, List.setIfInBounds_toArray, List.set_cons_zero, List.set_cons_succ, List.getElem_toArray, List.getElem_cons_succ, List.getElem_cons_zero]
            obtain ⟨w9, hw9⟩ : ∃ t, t = w8.setCell ⟨g, 6, none⟩ (.slice a2 LN.length c2) := ⟨_, rfl⟩
            rw [← hw9] at H9 V9 hSw ⊢
            clear hw9
            refine wpAnyH_done (by kernel_rfl) ?_ _
            go_wp2_with fail
            go_meet
            exact ⟨a2, c2, H9, V9⟩
          · go_simp
            have G4 := Lib.hid (Blk.new w3 22 [.slice an LN.length cn])
            have H4 := Lib.hid (H3.out.below (below_new1 w3 (.cells #[.slice an LN.length cn] 22)))
            clear H3
            refine hK.out _ _ (HSS.out _ _ H4.out) (fun hSw => ?_)
            clear hK K
            try simp only [Act.put, List.setIfInBounds_toArray, List.set_cons_zero, List.set_cons_succ, List.getElem_toArray, List.getElem_cons_succ, List.getElem_cons_zero]
            obtain ⟨w4, hw4⟩ : ∃ t, t = w3.alloc (.cells #[.slice an LN.length cn] 22) := ⟨_, rfl⟩
            obtain ⟨gs, hgs⟩ : ∃ t, t = w3.heap.size := ⟨_, rfl⟩
            rw [← hw4] at G4 H4 hSw ⊢
            rw [← hgs] at G4 ⊢
            clear hw4 hgs
            refine wpAnyH_ready (rs := [14]) (by kernel_rfl) (by simp) ?_
            refine AllReadyH.cons (o := _) rfl (fun K hK => ?_) AllReadyH.nil
            go_simp
            refine (HC2.out _).mono ?_; rintro e w5 ⟨rfl, q⟩
            have H5 := Lib.hid (H4.out.below q)
            have G5 := Lib.hid (G4.out.call q)
            clear q H4 G4
            go_wp2_with fail
            refine hK.out _ _ (HSS.out _ _ H5.out) (fun hSw => ?_)
            clear hK K
            try simp only [Act.put, List.setIfInBounds_toArray, List.set_cons_zero, List.set_cons_succ, List.getElem_toArray, List.getElem_cons_succ, List.getElem_cons_zero]
            refine wpAnyH_ready (rs := [21]) (by kernel_rfl) (by simp) ?_
            refine AllReadyH.cons (o := _) rfl (fun K hK => ?_) AllReadyH.nil
            go_simp
            refine (HC3.out _ _ G5.out H5.out.low).mono ?_; rintro e w6 ⟨v2, rfl, hr6, q⟩
            have H6 := Lib.hid (H5.out.below q)
            obtain ⟨a2, c2, hv2⟩ := row_slice hr6
            subst hv2
            have V6 : Hid (OwnN w6 W0.heap.size (.slice a2 LN.length c2) LN) := Lib.hid (row_weak hr6 H5.out.low.size)
            clear q H5 hr6 G5
            go_wp2_with fail
            refine hK.out _ _ (HSS.out _ _ H6.out) (fun hSw => ?_)
            clear hK K
            try simp only [Act.put, List.setIfInBounds_toArray, List.set_cons_zero, List.set_cons_succ, List.getElem_toArray, List.getElem_cons_succ, List.getElem_cons_zero]
            refine wpAnyH_take (i := 22) (v := .pointer (some ⟨g, 0, none⟩)) rfl (by kernel_rfl) (by kernel_rfl) (by kernel_rfl) (fun _ _ _ h => h) (Or.inl ⟨by rfl, fun w hSw => by (try dsimp only at hSw); go_simp⟩) (by assumption) ?_
            try simp only [Act.put, List.setIfInBounds_toArray, List.set_cons_zero, List.set_cons_succ, List.getElem_toArray, List.getElem_cons_succ, List.getElem_cons_zero]
            refine wpAnyH_take (i := 23) (v := .pointer (some ⟨g, 0, none⟩)) rfl (by kernel_rfl) (by kernel_rfl) (by kernel_rfl) (fun _ _ _ h => h) (Or.inl ⟨by rfl, fun w hSw => by (try dsimp only at hSw); go_simp⟩) (by assumption) ?_
            try simp only [Act.put, List.setIfInBounds_toArray, List.set_cons_zero, List.set_cons_succ, List.getElem_toArray, List.getElem_cons_succ, List.getElem_cons_zero]
            refine wpAnyH_take (i := 24) (v := .pointer (some ⟨g, 0, none⟩)) rfl (by kernel_rfl) (by kernel_rfl) (by kernel_rfl) (fun _ _ _ h => h) (Or.inl ⟨by rfl, fun w hSw => by (try dsimp only at hSw); go_simp⟩) (by assumption) ?_
            try simp only [Act.put, List.setIfInBounds_toArray, List.set_cons_zero, List.set_cons_succ, List.getElem_toArray, List.getElem_cons_succ, List.getElem_cons_zero]
            refine wpAnyH_ready (rs := [25]) (by kernel_rfl) (by simp) ?_
            refine AllReadyH.cons (o := _) rfl (fun K hK => ?_) AllReadyH.nil
            have e0 : w6.frozen? ⟨g, 0, none⟩ = false := H6.out.mak.frozen 0
            have e1 : g < w6.heap.size := H6.out.mak.lt
            have e2 := H6.out.mak.cell 0
            simp only [List.getElem?_cons_zero, List.getElem?_cons_succ] at e2
            go_simp
            have H7 := Lib.hid (H6.out.setN)
            have V7 : Hid (OwnN (w6.setCell ⟨g, 0, none⟩ (.string nm)) W0.heap.size (.slice a2 LN.length c2) LN) := Lib.hid (World.ownsRow.kept V6.out (grown_set w6 g 0 _) (.inr (row_block H6.out.mak V6.out (by decide))))
            clear e0 e1 e2 H6 V6
            refine hK.out _ _ (HSS.out _ _ H7.out) (fun hSw => ?_)
            clear hK K
            try simp only [Act.put, List.setIfInBounds_toArray, List.set_cons_zero, List.set_cons_succ, List.getElem_toArray, List.getElem_cons_succ, List.getElem_cons_zero]
            obtain ⟨w7, hw7⟩ : ∃ t, t = w6.setCell ⟨g, 0, none⟩ (.string nm) := ⟨_, rfl⟩
            rw [← hw7] at H7 V7 hSw ⊢
            clear hw7
            refine wpAnyH_take (i := 26) (v := .pointer (some ⟨g, 0, none⟩)) rfl (by kernel_rfl) (by kernel_rfl) (by kernel_rfl) (fun _ _ _ h => h) (Or.inl ⟨by rfl, fun w hSw => by (try dsimp only at hSw); go_simp⟩) (by assumption) ?_
            try simp only [Act.put, List.setIfInBounds_toArray, List.set_cons_zero, List.set_cons_succ, List.getElem_toArray, List.getElem_cons_succ, List.getElem_cons_zero]
            refine wpAnyH_take (i := 27) (v := .pointer (some ⟨g, 0, none⟩)) rfl (by kernel_rfl) (by kernel_rfl) (by kernel_rfl) (fun _ _ _ h => h) (Or.inl ⟨by rfl, fun w hSw => by (try dsimp only at hSw); go_simp⟩) (by assumption) ?_
            try simp only [Act.put, List.setIfInBounds_toArray, List.set_cons_zero, List.set_cons_succ, List.getElem_toArray, List.getElem_cons_succ, List.getElem_cons_zero]
            refine wpAnyH_take (i := 28) (v := .pointer (some ⟨g, 4, none⟩)) rfl (by kernel_rfl) (by kernel_rfl) (by kernel_rfl) (fun _ _ _ h => h) (Or.inl ⟨by rfl, fun w hSw => by (try dsimp only at hSw); go_simp⟩) (by assumption) ?_
            try simp only [Act.put, List.setIfInBounds_toArray, List.set_cons_zero, List.set_cons_succ, List.getElem_toArray, List.getElem_cons_succ, List.getElem_cons_zero]
            refine wpAnyH_ready (rs := [29]) (by kernel_rfl) (by simp) ?_
            refine AllReadyH.cons (o := _) rfl (fun K hK => ?_) AllReadyH.nil
            have e0 : w7.frozen? ⟨g, 4, none⟩ = false := H7.out.mak.frozen 4
            have e1 : g < w7.heap.size := H7.out.mak.lt
            have e2 := H7.out.mak.cell 4
            simp only [List.getElem?_cons_zero, List.getElem?_cons_succ] at e2
            go_simp
            have H8 := Lib.hid (H7.out.setB)
            have V8 : Hid (OwnN (w7.setCell ⟨g, 4, none⟩ (.string bs)) W0.heap.size (.slice a2 LN.length c2) LN) := Lib.hid (World.ownsRow.kept V7.out (grown_set w7 g 4 _) (.inr (row_block H7.out.mak V7.out (by decide))))
            clear e0 e1 e2 H7 V7
            refine hK.out _ _ (HSS.out _ _ H8.out) (fun hSw => ?_)
            clear hK K
            try simp only [Act.put, List.setIfInBounds_toArray, List.set_cons_zero, List.set_cons_succ, List.getElem_toArray, List.getElem_cons_succ, List.getElem_cons_zero]
            obtain ⟨w8, hw8⟩ : ∃ t, t = w7.setCell ⟨g, 4, none⟩ (.string bs) := ⟨_, rfl⟩
            rw [← hw8] at H8 V8 hSw ⊢
            clear hw8
            refine wpAnyH_take (i := 30) (v := .pointer (some ⟨g, 0, none⟩)) rfl (by kernel_rfl) (by kernel_rfl) (by kernel_rfl) (fun _ _ _ h => h) (Or.inl ⟨by rfl, fun w hSw => by (try dsimp only at hSw); go_simp⟩) (by assumption) ?_
            try simp only [Act.put, List.setIfInBounds_toArray, List.set_cons_zero, List.set_cons_succ, List.getElem_toArray, List.getElem_cons_succ, List.getElem_cons_zero]
            refine wpAnyH_take (i := 31) (v := .pointer (some ⟨g, 0, none⟩)) rfl (by kernel_rfl) (by kernel_rfl) (by kernel_rfl) (fun _ _ _ h => h) (Or.inl ⟨by rfl, fun w hSw => by (try dsimp only at hSw); go_simp⟩) (by assumption) ?_
            try simp only [Act.put, List.setIfInBounds_toArray, List.set_cons_zero, List.set_cons_succ, List.getElem_toArray, List.getElem_cons_succ, List.getElem_cons_zero]
            refine wpAnyH_take (i := 32) (v := .pointer (some ⟨g, 6, none⟩)) rfl (by kernel_rfl) (by kernel_rfl) (by kernel_rfl) (fun _ _ _ h => h) (Or.inl ⟨by rfl, fun w hSw => by (try dsimp only at hSw); go_simp⟩) (by assumption) ?_
            try simp only [Act.put, List.setIfInBounds_toArray, List.set_cons_zero, List.set_cons_succ, List.getElem_toArray, List.getElem_cons_succ, List.getElem_cons_zero]
            refine wpAnyH_ready (rs := [33]) (by kernel_rfl) (by simp) ?_
            refine AllReadyH.cons (o := _) rfl (fun K hK => ?_) AllReadyH.nil
            have e0 : w8.frozen? ⟨g, 6, none⟩ = false := H8.out.mak.frozen 6
            have e1 : g < w8.heap.size := H8.out.mak.lt
            have e2 := H8.out.mak.cell 6
            simp only [List.getElem?_cons_zero, List.getElem?_cons_succ] at e2
            go_simp
            have H9 := Lib.hid (H8.out.setV (.slice a2 LN.length c2))
            have V9 : Hid (OwnN (w8.setCell ⟨g, 6, none⟩ (.slice a2 LN.length c2)) W0.heap.size (.slice a2 LN.length c2) LN) := Lib.hid (World.ownsRow.kept V8.out (grown_set w8 g 6 _) (.inr (row_block H8.out.mak V8.out (by decide))))
            clear e0 e1 e2 H8 V8
            refine hK.out _ _ (HSS.out _ _ H9.out) (fun hSw => ?_)
            clear hK K
            try simp only [Act.put, List.setIfInBounds_toArray, List.set_cons_zero, List.set_cons_succ, List.getElem_toArray, List.getElem_cons_succ, List.getElem_cons_zero]
            obtain ⟨w9, hw9⟩ : ∃ t, t = w8.setCell ⟨g, 6, none⟩ (.slice a2 LN.length c2) := ⟨_, rfl⟩
            rw [← hw9] at H9 V9 hSw ⊢
            clear hw9
            refine wpAnyH_done (by kernel_rfl) ?_ _
            go_wp2_with fail
            go_meet
            exact ⟨a2, c2, H9, V9⟩
        · go_simp
          have G3 := Lib.hid (Blk.new w2 22 [.slice an LN.length cn])
          have H3 := Lib.hid (H2.out.below (below_new1 w2 (.cells #[.slice an LN.length cn] 22)))
          clear H2
          refine hK.out _ _ (HSS.out _ _ H3.out) (fun hSw => ?_)
          clear hK K
          try simp only [Act.put, List.setIfInBounds_toArray, List.set_cons_zero, List.set_cons_succ, List.getElem_toArray, List.getElem_cons_succ, List.getElem_cons_zero]
          obtain ⟨w3, hw3⟩ : ∃ t, t = w2.alloc (.cells #[.slice an LN.length cn] 22) := ⟨_, rfl⟩
          obtain ⟨gs, hgs⟩ : ∃ t, t = w2.heap.size := ⟨_, rfl⟩
          rw [← hw3] at G3 H3 hSw ⊢
          rw [← hgs] at G3 ⊢
          clear hw3 hgs
          refine wpAnyH_ready (rs := [8]) (by kernel_rfl) (by simp) ?_
          refine AllReadyH.cons (o := _) rfl (fun K hK => ?_) AllReadyH.nil
          go_simp
          refine (HC1.out _).mono ?_; rintro e w4 ⟨rfl, q⟩
          have H4 := Lib.hid (H3.out.below q)
          have G4 := Lib.hid (G3.out.call q)
          clear q H3 G3
          go_wp2_with fail
          refine hK.out _ _ (HSS.out _ _ H4.out) (fun hSw => ?_)
          clear hK K
          try simp only [Act.put, List.setIfInBounds_toArray, List.set_cons_zero, List.set_cons_succ, List.getElem_toArray, List.getElem_cons_succ, List.getElem_cons_zero]
          refine wpAnyH_ready (rs := [14]) (by kernel_rfl) (by simp) ?_
          refine AllReadyH.cons (o := _) rfl (fun K hK => ?_) AllReadyH.nil
          go_simp
          refine (HC2.out _).mono ?_; rintro e w5 ⟨rfl, q⟩
          have H5 := Lib.hid (H4.out.below q)
          have G5 := Lib.hid (G4.out.call q)
          clear q H4 G4
          go_wp2_with fail
          refine hK.out _ _ (HSS.out _ _ H5.out) (fun hSw => ?_)
          clear hK K
          try simp only [Act.put, List.setIfInBounds_toArray, List.set_cons_zero, List.set_cons_succ, List.getElem_toArray, List.getElem_cons_succ, List.getElem_cons_zero]
          refine wpAnyH_ready (rs := [21]) (by kernel_rfl) (by simp) ?_
          refine AllReadyH.cons (o := _) rfl (fun K hK => ?_) AllReadyH.nil
          go_simp
          refine (HC3.out _ _ G5.out H5.out.low).mono ?_; rintro e w6 ⟨v2, rfl, hr6, q⟩
          have H6 := Lib.hid (H5.out.below q)
          obtain ⟨a2, c2, hv2⟩ := row_slice hr6
          subst hv2
          have V6 : Hid (OwnN w6 W0.heap.size (.slice a2 LN.length c2) LN) := Lib.hid (row_weak hr6 H5.out.low.size)
          clear q H5 hr6 G5
          go_wp2_with fail
          refine hK.out _ _ (HSS.out _ _ H6.out) (fun hSw => ?_)
          clear hK K
          try simp only [Act.put, List.setIfInBounds_toArray, List.set_cons_zero, List.set_cons_succ, List.getElem_toArray, List.getElem_cons_succ, List.getElem_cons_zero]
          refine wpAnyH_take (i := 22) (v := .pointer (some ⟨g, 0, none⟩)) rfl (by kernel_rfl) (by kernel_rfl) (by kernel_rfl) (fun _ _ _ h => h) (Or.inl ⟨by rfl, fun w hSw => by (try dsimp only at hSw); go_simp⟩) (by assumption) ?_
          try simp only [Act.put, List.setIfInBounds_toArray, List.set_cons_zero, List.set_cons_succ, List.getElem_toArray, List.getElem_cons_succ, List.getElem_cons_zero]
          refine wpAnyH_take (i := 23) (v := .pointer (some ⟨g, 0, none⟩)) rfl (by kernel_rfl) (by kernel_rfl) (by kernel_rfl) (fun _ _ _ h => h) (Or.inl ⟨by rfl, fun w hSw => by (try dsimp only at hSw); go_simp⟩) (by assumption) ?_
          try simp only [Act.put, List.setIfInBounds_toArray, List.set_cons_zero, List.set_cons_succ, List.getElem_toArray, List.getElem_cons_succ, List.getElem_cons_zero]
          refine wpAnyH_take (i := 24) (v := .pointer (some ⟨g, 0, none⟩)) rfl (by kernel_rfl) (by kernel_rfl) (by kernel_rfl) (fun _ _ _ h => h) (Or.inl ⟨by rfl, fun w hSw => by (try dsimp only at hSw); go_simp⟩) (by assumption) ?_
          try simp only [Act.put, List.setIfInBounds_toArray, List.set_cons_zero, List.set_cons_succ, List.getElem_toArray, List.getElem_cons_succ, List.getElem_cons_zero]
          refine wpAnyH_ready (rs := [25]) (by kernel_rfl) (by simp) ?_
          refine AllReadyH.cons (o := _) rfl (fun K hK => ?_) AllReadyH.nil
          have e0 : w6.frozen? ⟨g, 0, none⟩ = false := H6.out.mak.frozen 0
          have e1 : g < w6.heap.size := H6.out.mak.lt
          have e2 := H6.out.mak.cell 0
          simp only [List.getElem?_cons_zero, List.getElem?_cons_succ] at e2
          go_simp
          have H7 := Lib.hid (H6.out.setN)
          have V7 : Hid (OwnN (w6.setCell ⟨g, 0, none⟩ (.string nm)) W0.heap.size (.slice a2 LN.length c2) LN) := Lib.hid (World.ownsRow.kept V6.out (grown_set w6 g 0 _) (.inr (row_block H6.out.mak V6.out (by decide))))
          clear e0 e1 e2 H6 V6
          refine hK.out _ _ (HSS.out _ _ H7.out) (fun hSw => ?_)
          clear hK K
          try simp only [Act.put, List.setIfInBounds_toArray, List.set_cons_zero, List.set_cons_succ, List.getElem_toArray, List.getElem_cons_succ, List.getElem_cons_zero]
          obtain ⟨w7, hw7⟩ : ∃ t, t = w6.setCell ⟨g, 0, none⟩ (.string nm) := ⟨_, rfl⟩
          rw [← hw7] at H7 V7 hSw ⊢
          clear hw7
          refine wpAnyH_take (i := 26) (v := .pointer (some ⟨g, 0, none⟩)) rfl (by kernel_rfl) (by kernel_rfl) (by kernel_rfl) (fun _ _ _ h => h) (Or.inl ⟨by rfl, fun w hSw => by (try dsimp only at hSw); go_simp⟩) (by assumption) ?_
          try simp only [Act.put, List.setIfInBounds_toArray, List.set_cons_zero, List.set_cons_succ, List.getElem_toArray, List.getElem_cons_succ, List.getElem_cons_zero]
          refine wpAnyH_take (i := 27) (v := .pointer (some ⟨g, 0, none⟩)) rfl (by kernel_rfl) (by kernel_rfl) (by kernel_rfl) (fun _ _ _ h => h) (Or.inl ⟨by rfl, fun w hSw => by (try dsimp only at hSw); go_simp⟩) (by assumption) ?_
          try simp only [Act.put, List.setIfInBounds_toArray, List.set_cons_zero, List.set_cons_succ, List.getElem_toArray, List.getElem_cons_succ, List.getElem_cons_zero]
          refine wpAnyH_take (i := 28) (v := .pointer (some ⟨g, 4, none⟩)) rfl (by kernel_rfl) (by kernel_rfl) (by kernel_rfl) (fun _ _ _ h => h) (Or.inl ⟨by rfl, fun w hSw => by (try dsimp only at hSw); go_simp⟩) (by assumption) ?_
          try simp only [Act.put, List.setIfInBounds_toArray, List.set_cons_zero, List.set_cons_succ, List.getElem_toArray, List.getElem_cons_succ, List.getElem_cons_zero]
          refine wpAnyH_ready (rs := [29]) (by kernel_rfl) (by simp) ?_
          refine AllReadyH.cons (o := _) rfl (fun K hK => ?_) AllReadyH.nil
          have e0 : w7.frozen? ⟨g, 4, none⟩ = false := H7.out.mak.frozen 4
          have e1 : g < w7.heap.size := H7.out.mak.lt
          have e2 := H7.out.mak.cell 4
          simp only [List.getElem?_cons_zero, List.getElem?_cons_succ] at e2
          go_simp
          have H8 := Lib.hid (H7.out.setB)
          have V8 : Hid (OwnN (w7.setCell ⟨g, 4, none⟩ (.string bs)) W0.heap.size (.slice a2 LN.length c2) LN) := Lib.hid (World.ownsRow.kept V7.out (grown_set w7 g 4 _) (.inr (row_block H7.out.mak V7.out (by decide))))
          clear e0 e1 e2 H7 V7
          refine hK.out _ _ (HSS.out _ _ H8.out) (fun hSw => ?_)
          clear hK K
          try simp only [Act.put, List.setIfInBounds_toArray, List.set_cons_zero, List.set_cons_succ, List.getElem_toArray, List.getElem_cons_succ, List.getElem_cons_zero]
          obtain ⟨w8, hw8⟩ : ∃ t, t = w7.setCell ⟨g, 4, none⟩ (.string bs) := ⟨_, rfl⟩
          rw [← hw8] at H8 V8 hSw ⊢
          clear hw8
          refine wpAnyH_take (i := 30) (v := .pointer (some ⟨g, 0, none⟩)) rfl (by kernel_rfl) (by kernel_rfl) (by kernel_rfl) (fun _ _ _ h => h) (Or.inl ⟨by rfl, fun w hSw => by (try dsimp only at hSw); go_simp⟩) (by assumption) ?_
          try simp only [Act.put, List.setIfInBounds_toArray, List.set_cons_zero, List.set_cons_succ, List.getElem_toArray, List.getElem_cons_succ, List.getElem_cons_zero]
          refine wpAnyH_take (i := 31) (v := .pointer (some ⟨g, 0, none⟩)) rfl (by kernel_rfl) (by kernel_rfl) (by kernel_rfl) (fun _ _ _ h => h) (Or.inl ⟨by rfl, fun w hSw => by (try dsimp only at hSw); go_simp⟩) (by assumption) ?_
          try simp only [Act.put, List.setIfInBounds_toArray, List.set_cons_zero, List.set_cons_succ, List.getElem_toArray, List.getElem_cons_succ, List.getElem_cons_zero]
          refine wpAnyH_take (i := 32) (v := .pointer (some ⟨g, 6, none⟩)) rfl (by kernel_rfl) (by kernel_rfl) (by kernel_rfl) (fun _ _ _ h => h) (Or.inl ⟨by rfl, fun w hSw => by (try dsimp only at hSw); go_simp⟩) (by assumption) ?_
          try simp only [Act.put, List.setIfInBounds_toArray, List.set_cons_zero, List.set_cons_succ, List.getElem_toArray, List.getElem_cons_succ, List.getElem_cons_zero]
          refine wpAnyH_ready (rs := [33]) (by kernel_rfl) (by simp) ?_
          refine AllReadyH.cons (o := _) rfl (fun K hK => ?_) AllReadyH.nil
          have e0 : w8.frozen? ⟨g, 6, none⟩ = false := H8.out.mak.frozen 6
          have e1 : g < w8.heap.size := H8.out.mak.lt
          have e2 := H8.out.mak.cell 6
          simp only [List.getElem?_cons_zero, List.getElem?_cons_succ] at e2
          go_simp
          have H9 := Lib.hid (H8.out.setV (.slice a2 LN.length c2))
          have V9 : Hid (OwnN (w8.setCell ⟨g, 6, none⟩ (.slice a2 LN.length c2)) W0.heap.size (.slice a2 LN.length c2) LN) := Lib.hid (World.ownsRow.kept V8.out (grown_set w8 g 6 _) (.inr (row_block H8.out.mak V8.out (by decide))))
          clear e0 e1 e2 H8 V8
          refine hK.out _ _ (HSS.out _ _ H9.out) (fun hSw => ?_)
          clear hK K
          try simp only [Act.put, List.setIfInBounds_toArray, List.set_cons_zero, List.set_cons_succ, List.getElem_toArray, List.getElem_cons_succ, List.getElem_cons_zero]
          obtain ⟨w9, hw9⟩ : ∃ t, t = w8.setCell ⟨g, 6, none⟩ (.slice a2 LN.length c2) := ⟨_, rfl⟩
          rw [← hw9] at H9 V9 hSw ⊢
          clear hw9
          refine wpAnyH_done (by kernel_rfl) ?_ _
          go_wp2_with fail
          go_meet
          exact ⟨a2, c2, H9, V9⟩
    case rest =>
    obtain ⟨a2, c2, H9, HV9⟩ := hcut
    obtain ⟨w9, hw9⟩ : ∃ t, t = wc := ⟨_, rfl⟩
    rw [← hw9] at H9 HV9 ⊢
    clear hw9 H1 H2d HSS
    obtain ⟨n, hn⟩ : ∃ n, n = LR.length := ⟨_, rfl⟩
    have hni : (n : Int) ≤ 4398046511104 := by have := HLL.out; omega
    rw [← hn] at HLR HFIN H9
    have HROW : Hid (∀ wr, OwnR wr W0.heap.size (.slice ar n cr) LR → 0 < n → ∃ gq, ar = some ⟨gq, 0, none⟩) := Lib.hid (fun wr h h0 => by rw [hn] at h h0; exact row_some h h0)
    have HFOUR : Hid (∀ wr gq k, OwnR wr W0.heap.size (.slice (some ⟨gq, 0, none⟩) n cr) LR → k < n → wr.cell? ⟨gq, k * 4, none⟩ = some (.int .u32 (LR.getD k Rl.nought).off) ∧ wr.cell? ⟨gq, k * 4 + 1, none⟩ = some (.int .u8 (LR.getD k Rl.nought).kind) ∧ wr.cell? ⟨gq, k * 4 + 2, none⟩ = some (.string (tx (LR.getD k Rl.nought).name)) ∧ wr.cell? ⟨gq, k * 4 + 3, none⟩ = some (.int .u32 (LR.getD k Rl.nought).add)) := Lib.hid (fun wr gq k h hk => by rw [hn] at h hk; exact row_four h hk)
    have HN := Lib.hid hn
    clear hn HC1 HC2 HC3 HLL HNA HNO
    have m5 := H9.out.mak.cell 5
    simp only [List.getElem?_cons_zero, List.getElem?_cons_succ] at m5
    go_wp2_with fail
    clear m5
    go_loopw [53] (fun i wr => ∃ k : Nat, (k : Int) ≤ n ∧ i = .int .i64 k ∧ Hid (MS W0 wr g pr rs nm bi ki sz bs (.slice ar n cr) (.slice a2 LN.length c2) lb LR) ∧ Hid (OwnN wr W0.heap.size (.slice a2 LN.length c2) LN)) (fun i _ => n - (intOf i).toNat)
    case atStart => exact ⟨0, by omega, rfl, H9, HV9⟩
    case round =>
      obtain ⟨k, hk, rfl, hM, hV⟩ := hrel
      by_cases hlt : k < n
      · obtain ⟨gq, rfl⟩ := HROW.out wr hM.out.row (by omega)
        obtain ⟨y0, y1, y2, y3⟩ := HFOUR.out wr gq k hM.out.row hlt
        have HCn := Lib.hid (sclone_any (tx (LR.getD k Rl.nought).name) (HLR.out k hlt))
        have HAG : Hid (∀ w', MS W0 w' g pr rs nm bi ki sz bs (.slice (some ⟨gq, 0, none⟩) n cr) (.slice a2 LN.length c2) lb LR → MS W0 (w'.setCell ⟨gq, k * 4 + 2, none⟩ (.string (tx (LR.getD k Rl.nought).name))) g pr rs nm bi ki sz bs (.slice (some ⟨gq, 0, none⟩) n cr) (.slice a2 LN.length c2) lb LR ∧ w'.frozen? ⟨gq, k * 4 + 2, none⟩ = false ∧ gq < w'.heap.size ∧ w'.cell? ⟨gq, k * 4 + 2, none⟩ = some (.string (tx (LR.getD k Rl.nought).name)) ∧ gq ≠ g ∧ W0.heap.size ≤ gq) := Lib.hid (fun w' h => h.again (by rw [HN.out]) (by rw [← HN.out]; exact hlt))
        have HGQ := Lib.hid (HAG.out wr hM.out).2
        obtain ⟨oo, hoo⟩ : ∃ t, t = (LR.getD k Rl.nought).off := ⟨_, rfl⟩
        obtain ⟨kk, hkk⟩ : ∃ t, t = (LR.getD k Rl.nought).kind := ⟨_, rfl⟩
        obtain ⟨NM, hNM⟩ : ∃ t, t = tx (LR.getD k Rl.nought).name := ⟨_, rfl⟩
        obtain ⟨aa, haa⟩ : ∃ t, t = (LR.getD k Rl.nought).add := ⟨_, rfl⟩
        rw [← hoo] at y0
        rw [← hkk] at y1
        rw [← hNM] at y2 HCn HAG HGQ
        rw [← haa] at y3
        have hdk : decide (k < n) = true := decide_eq_true hlt
        clear hoo hkk hNM haa HROW HFOUR HLR
        go_upto_region 8 with (fail)
        have HX1 := Lib.hid (Blk.new wr 58 [.int .u32 oo, .int .u8 kk, .string NM, .int .u32 aa])
        have HM1 := Lib.hid (hM.out.below (below_new1 wr (.cells #[.int .u32 oo, .int .u8 kk, .string NM, .int .u32 aa] 58)))
        have HV1 := Lib.hid (row_below hV.out (below_new1 wr (.cells #[.int .u32 oo, .int .u8 kk, .string NM, .int .u32 aa] 58)))
        have HNQ : Hid (gq ≠ wr.heap.size) := Lib.hid (Nat.ne_of_lt HGQ.out.2.1)
        have HNG : Hid (g ≠ wr.heap.size) := Lib.hid (Nat.ne_of_lt hM.out.mak.lt)
        obtain ⟨g6, hg6⟩ : ∃ t, t = wr.heap.size := ⟨_, rfl⟩
        obtain ⟨w2, hw2⟩ : ∃ t, t = wr.alloc (.cells #[.int .u32 oo, .int .u8 kk, .string NM, .int .u32 aa] 58) := ⟨_, rfl⟩
        rw [← hw2] at HX1 HM1 HV1 ⊢
        rw [← hg6] at HX1 HNQ HNG ⊢
        clear hw2 hg6 hM hV HGQ y0 y1 y2 y3
        have HSS : Hid (∀ w', MS W0 w' g pr rs nm bi ki sz bs (.slice (some ⟨gq, 0, none⟩) n cr) (.slice a2 LN.length c2) lb LR → Blk w' g6 58 [.int .u32 oo, .int .u8 kk, .string NM, .int .u32 aa] → w'.cell? ⟨g, 5, none⟩ = some (.slice (some ⟨gq, 0, none⟩) n cr) ∧ w'.cell? ⟨g6, 2, none⟩ = some (.string NM)) := Lib.hid (fun w' h1 h2 => ⟨h1.mak.cell 5, h2.cell 2⟩)
        refine wp_region_held_drew (S := fun w' => w'.cell? ⟨g, 5, none⟩ = some (.slice (some ⟨gq, 0, none⟩) n cr) ∧ w'.cell? ⟨g6, 2, none⟩ = some (.string NM)) (by kernel_rfl) (HSS.out _ (HM1.out.below (below_drewN w2 1)) HX1.out) (fun hSw => ?_)
        have HM2 : Hid (MS W0 w2.drew g pr rs nm bi ki sz bs (.slice (some ⟨gq, 0, none⟩) n cr) (.slice a2 LN.length c2) lb LR) := Lib.hid (HM1.out.below (below_drewN w2 1))
        have HX2 : Hid (Blk w2.drew g6 58 [.int .u32 oo, .int .u8 kk, .string NM, .int .u32 aa]) := Lib.hid HX1.out
        have HV2 : Hid (OwnN w2.drew W0.heap.size (.slice a2 LN.length c2) LN) := Lib.hid (row_below HV1.out (below_drewN w2 1))
        obtain ⟨w3, hw3⟩ : ∃ t, t = w2.drew := ⟨_, rfl⟩
        rw [← hw3] at HM2 HX2 HV2 hSw ⊢
        clear hw3 HM1 HX1 HV1
        refine wpAnyH_take (i := 0) (v := .pointer (some ⟨g, 0, none⟩)) rfl (by kernel_rfl) (by kernel_rfl) (by kernel_rfl) (fun _ _ _ h => h) (Or.inl ⟨by rfl, fun w hSw => by (try dsimp only at hSw); go_simp⟩) (by assumption) ?_
        try simp only [Act.put, List.setIfInBounds_toArray, List.set_cons_zero, List.set_cons_succ, List.getElem_toArray, List.getElem_cons_succ, List.getElem_cons_zero]
        refine wpAnyH_take (i := 1) (v := .pointer (some ⟨g, 0, none⟩)) rfl (by kernel_rfl) (by kernel_rfl) (by kernel_rfl) (fun _ _ _ h => h) (Or.inl ⟨by rfl, fun w hSw => by (try dsimp only at hSw); go_simp⟩) (by assumption) ?_
        try simp only [Act.put, List.setIfInBounds_toArray, List.set_cons_zero, List.set_cons_succ, List.getElem_toArray, List.getElem_cons_succ, List.getElem_cons_zero]
        refine wpAnyH_take (i := 2) (v := .pointer (some ⟨g, 0, none⟩)) rfl (by kernel_rfl) (by kernel_rfl) (by kernel_rfl) (fun _ _ _ h => h) (Or.inl ⟨by rfl, fun w hSw => by (try dsimp only at hSw); go_simp⟩) (by assumption) ?_
        try simp only [Act.put, List.setIfInBounds_toArray, List.set_cons_zero, List.set_cons_succ, List.getElem_toArray, List.getElem_cons_succ, List.getElem_cons_zero]
        refine wpAnyH_take (i := 3) (v := .pointer (some ⟨g, 5, none⟩)) rfl (by kernel_rfl) (by kernel_rfl) (by kernel_rfl) (fun _ _ _ h => h) (Or.inl ⟨by rfl, fun w hSw => by (try dsimp only at hSw); go_simp⟩) (by assumption) ?_
        try simp only [Act.put, List.setIfInBounds_toArray, List.set_cons_zero, List.set_cons_succ, List.getElem_toArray, List.getElem_cons_succ, List.getElem_cons_zero]
        refine wpAnyH_take (i := 4) (v := .slice (some ⟨gq, 0, none⟩) n cr) rfl (by kernel_rfl) (by kernel_rfl) (by kernel_rfl) (fun _ _ _ h => h) (Or.inl ⟨by rfl, fun w hSw => by (try dsimp only at hSw); go_simp⟩) (by assumption) ?_
        try simp only [Act.put, List.setIfInBounds_toArray, List.set_cons_zero, List.set_cons_succ, List.getElem_toArray, List.getElem_cons_succ, List.getElem_cons_zero]
        refine wpAnyH_take (i := 5) (v := .int .i64 (k : Int)) rfl (by kernel_rfl) (by kernel_rfl) (by kernel_rfl) (fun _ _ _ h => h) (Or.inl ⟨by rfl, fun w hSw => by (try dsimp only at hSw); go_simp⟩) (by assumption) ?_
        try simp only [Act.put, List.setIfInBounds_toArray, List.set_cons_zero, List.set_cons_succ, List.getElem_toArray, List.getElem_cons_succ, List.getElem_cons_zero]
        refine wpAnyH_take (i := 6) (v := .pointer (some ⟨g6, 2, none⟩)) rfl (by kernel_rfl) (by kernel_rfl) (by kernel_rfl) (fun _ _ _ h => h) (Or.inl ⟨by rfl, fun w hSw => by (try dsimp only at hSw); go_simp⟩) (by assumption) ?_
        try simp only [Act.put, List.setIfInBounds_toArray, List.set_cons_zero, List.set_cons_succ, List.getElem_toArray, List.getElem_cons_succ, List.getElem_cons_zero]
        refine wpAnyH_take (i := 7) (v := .string NM) rfl (by kernel_rfl) (by kernel_rfl) (by kernel_rfl) (fun _ _ _ h => h) (Or.inl ⟨by rfl, fun w hSw => by (try dsimp only at hSw); go_simp⟩) (by assumption) ?_
        try simp only [Act.put, List.setIfInBounds_toArray, List.set_cons_zero, List.set_cons_succ, List.getElem_toArray, List.getElem_cons_succ, List.getElem_cons_zero]
        refine wpAnyH_ready (rs := [8]) (by kernel_rfl) (by simp) ?_
        refine AllReadyH.cons (o := _) rfl (fun K hK => ?_) AllReadyH.nil
        go_simp
        refine (HCn.out _).mono ?_; rintro e w4 ⟨rfl, q⟩
        have HM3 := Lib.hid (HM2.out.below q)
        have HX3 := Lib.hid (HX2.out.call q)
        have HV3 := Lib.hid (row_below HV2.out q)
        clear q HM2 HX2 HV2 HCn
        go_wp2_with fail
        refine hK.out _ _ (HSS.out _ HM3.out HX3.out) (fun hSw => ?_)
        clear hK K
        try simp only [Act.put, List.setIfInBounds_toArray, List.set_cons_zero, List.set_cons_succ, List.getElem_toArray, List.getElem_cons_succ, List.getElem_cons_zero]
        refine wpAnyH_take (i := 9) (v := .pointer (some ⟨gq, k * 4, none⟩)) rfl (by kernel_rfl) (by kernel_rfl) (by kernel_rfl) (fun _ _ _ h => h) (Or.inl ⟨by rfl, fun w hSw => by (try dsimp only at hSw); go_simp⟩) (by assumption) ?_
        try simp only [Act.put, List.setIfInBounds_toArray, List.set_cons_zero, List.set_cons_succ, List.getElem_toArray, List.getElem_cons_succ, List.getElem_cons_zero]
        refine wpAnyH_take (i := 10) (v := .pointer (some ⟨gq, k * 4 + 2, none⟩)) rfl (by kernel_rfl) (by kernel_rfl) (by kernel_rfl) (fun _ _ _ h => h) (Or.inl ⟨by rfl, fun w hSw => by (try dsimp only at hSw); go_simp⟩) (by assumption) ?_
        try simp only [Act.put, List.setIfInBounds_toArray, List.set_cons_zero, List.set_cons_succ, List.getElem_toArray, List.getElem_cons_succ, List.getElem_cons_zero]
        refine wpAnyH_ready (rs := [11]) (by kernel_rfl) (by simp) ?_
        refine AllReadyH.cons (o := _) rfl (fun K hK => ?_) AllReadyH.nil
        obtain ⟨e1, e2, e3, e4, e5, e6⟩ := HAG.out _ HM3.out
        have HM4 := Lib.hid e1
        have HX4 := Lib.hid (HX3.out.far (p := ⟨gq, k * 4 + 2, none⟩) (fun e => HNQ.out e.symm) (.string NM))
        have HV4 : Hid (OwnN (w4.setCell ⟨gq, k * 4 + 2, none⟩ (.string NM)) W0.heap.size (.slice a2 LN.length c2) LN) := Lib.hid (World.ownsRow.kept HV3.out (grown_set w4 gq (k * 4 + 2) (.string NM)) (.inr (by
          have h := row_apart HV3.out HM3.out.row (by decide)
          intro hc
          rcases h with h | h
          · rw [h] at hc; cases hc
          · exact h hc)))
        clear e1 e5 e6 HM3 HX3 HV3
        go_simp
        refine hK.out _ _ (HSS.out _ HM4.out HX4.out) (fun hSw => ?_)
        clear hK K
        try simp only [Act.put, List.setIfInBounds_toArray, List.set_cons_zero, List.set_cons_succ, List.getElem_toArray, List.getElem_cons_succ, List.getElem_cons_zero]
        refine wpAnyH_done (by kernel_rfl) ?_ _
        clear e2 e3 e4 hSw HX4 HSS HAG HNQ HNG
        go_wp2_with fail
        go_roundw
        case rel => exact ⟨k + 1, by omega, by go_num, HM4, HV4⟩
        case measure => simp [intOf]; omega
      · obtain rfl : k = n := by omega
        have HF := Lib.hid (HFIN.out wr rs _ hM.out hV.out trivial)
        obtain ⟨y0, y1, y2, y3, y4, y5, y6, y7⟩ := hM.out.mak.eight
        obtain ⟨x0, x1, x2, x3, x4, x5, x6⟩ := hM.out.res.seven
        obtain ⟨e0, e1, e2, e3, e4, e5, e6, _, elt⟩ := hM.out.res.free8
        have HM1 := Lib.hid (store7m (.string nm) (.int .u8 bi) (.int .u8 ki) (.int .u32 sz) (.string bs) (.slice ar k cr) (.slice a2 LN.length c2) hM.out.res)
        clear hlt hk hM hV HROW HFOUR HLR HFIN H9 HV9
        go_wp2_with fail
        obtain ⟨k1, k2⟩ := HM1.out _ rfl
        refine bodyPost_ret (v := .tuple #[.agg #[.string nm, .int .u8 bi, .int .u8 ki, .int .u32 sz, .string bs, .slice ar k cr, .slice a2 LN.length c2], .int .i64 0]) (res_sy_tmp Tryd.results35 _ _ rs _ _ _ _ _ _ _ _ rfl rfl k1) rfl ?_
        exact HF.out _ k2
end Go.Proofs.YtlnnhgmkibjgmaaDoor
