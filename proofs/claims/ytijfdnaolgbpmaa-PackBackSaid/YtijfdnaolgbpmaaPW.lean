/- PackBack, given what the program's package pack is held to. -/
import Derived.Test.YtijfdnaolgbpmaaPV
set_option linter.unusedVariables false
namespace Go.Proofs.Ytijfdnaolgbpmaa
open Go Go.RowKit Pk

section
variable {Rep : List Value → Rd → Prop}
set_option maxHeartbeats 16000000 in
set_option maxRecDepth 100000 in
theorem back_main (h : PackOK Rep) (x : Int) (hx0 : 0 ≤ x) (hx1 : x < 4294967296) (s more b : ByteArray) (v : Value) (L : List (List UInt8)) (w : World) (hl : SlArg w v L) (hR : ∀ j, j < L.length → (L.getD j []).length ≤ 140737488355328) (hL : L.length ≤ 140737488355328)
    (hb : largeB L = false) (hs : s.size + more.size + b.size ≤ 65536) : Calls Try.prog 5 #[.int .u32 x, .string s, v, .string more, .string b] w fun e w' => e = .returned (.bool true) ∧ Below w.heap.size w w' := by
  have HLa := Lib.hid (large_any v L w hl.slAt hR hL)
  rw [hb] at HLa
  obtain ⟨hn1, hn2⟩ := not_large hb
  have hcat := cat_tot L
  have hcl : (cat L).length ≤ 1048576 := by omega
  have HA := Lib.hid (fun w1 => palive_any h w1)
  have HH := Lib.hid h
  have e1 : IntKind.i64.wrap ((s.size : Int) + (more.size : Int)) = (s.size : Int) + (more.size : Int) := by rw [IntKind.wrap_i64]; omega
  have e2 : IntKind.i64.wrap ((s.size : Int) + (more.size : Int) + (b.size : Int)) = (s.size : Int) + (more.size : Int) + (b.size : Int) := by rw [IntKind.wrap_i64]; omega
  have e3 : decide ((65536 : Int) < (s.size : Int) + (more.size : Int) + (b.size : Int)) = false := decide_eq_false (by omega)
  have e4 : ¬ (65536 : Int) < (s.size : Int) + (more.size : Int) + (b.size : Int) := by omega
  have HN4 := Lib.hid (num4 x hx0 hx1)
  have HNS : Hid (txtE (by' s) = 0 → lstE L = 0 → ∀ w1, Calls Try.prog 16 #[.string (numS x 4 ++ txtS s ++ lstS L ++ more)] w1 fun e w' => ∃ p, e = .returned (.pointer (some ⟨p, 0, none⟩)) ∧ w1.heap.size ≤ p ∧ PdAt Rep w' p (b0 x (by' s) L (by' more)) ∧ Below w1.heap.size w1 w') := Lib.hid fun h1 h2 w1 => by
    have hb := back_bytes x hx0 hx1 s more L h1 h2
    have := h.new (numS x 4 ++ txtS s ++ lstS L ++ more) w1 (by
      have hl2 := b0_length x (by' s) L (by' more)
      rw [← hb] at hl2
      rw [← by_length, hl2, by_length, by_length]
      omega)
    unfold PdNew at this
    rw [hb] at this
    exact this
  have HSm : Hid (txtE (by' s) = 0 → lstE L = 0 → (numS x 4).size + (txtS s).size + (lstS L).size + more.size ≤ 1099511627776) := Lib.hid fun h1 h2 => by
    have hb := back_bytes x hx0 hx1 s more L h1 h2
    have hl2 := b0_length x (by' s) L (by' more)
    rw [← hb] at hl2
    rw [← ByteArray.size_append', ← ByteArray.size_append', ← ByteArray.size_append', ← by_length, hl2, by_length, by_length]
    omega
  have HX : Hid ((x.toNat : Int) = x) := Lib.hid (Int.toNat_of_nonneg hx0)
  have HSl := Lib.hid hl
  have HB0 := Lib.hid (b0_num x hx0 hx1)
  have HBL := Lib.hid (fun S M (hS : S.length ≤ 65535) (hM : M.length ≤ 65536) => show (b0 x S L M).S.length ≤ 1099511627776 ∧ (b1 S L M).S.length ≤ 1099511627776 ∧ (b2 L M).S.length ≤ 1099511627776 ∧ (b3 M).S.length ≤ 1099511627776 from by
    have := b0_length x S L M
    refine ⟨by omega, ?_, ?_, ?_⟩
    · unfold b1; simp only [List.length_append, txt_length, lst_length]; omega
    · unfold b2; simp only [List.length_append, lst_length]; omega
    · unfold b3; simp only; omega)
  obtain ⟨A, hA⟩ : ∃ A, A = numS x 4 := ⟨_, rfl⟩
  obtain ⟨C, hC⟩ : ∃ C, C = txtS s := ⟨_, rfl⟩
  obtain ⟨F, hF⟩ : ∃ F, F = txtE (by' s) := ⟨_, rfl⟩
  obtain ⟨X, hX⟩ : ∃ X, X = lstS L := ⟨_, rfl⟩
  obtain ⟨I, hI⟩ : ∃ I, I = lstE L := ⟨_, rfl⟩
  have H1 := Lib.hid (fun w1 => h.num x 4 w1 hx0 hx1)
  have H3 := Lib.hid (fun w1 => h.text s w1 (by omega))
  have H5 := Lib.hid (fun u w1 (q : SlAt w1 u L) => h.texts u L w1 q (by omega) (by omega))
  rw [HN4.out.1] at H1
  rw [← hA, ← hC, ← hX, ← hF, ← hI] at HNS HSm
  rw [← hA] at H1
  rw [← hC, ← hF] at H3
  rw [← hX, ← hI] at H5
  have hFi : F = if s.size ≤ 65535 then 0 else 5 := by
    rw [hF]
    split
    · exact txtE_le (by rw [by_length]; omega)
    · exact txtE_gt (by rw [by_length]; omega)
  have hIi : I = 0 ∨ I = 5 := by rw [hI]; exact lstE_two L
  -- the second reader
  have hbs : b.size ≤ 65536 := by omega
  have HSb := Lib.hid hbs
  have HNB : Hid (∀ w1, Calls Try.prog 16 #[.string b] w1 fun e w' => ∃ p, e = .returned (.pointer (some ⟨p, 0, none⟩)) ∧ w1.heap.size ≤ p ∧ PdAt Rep w' p ⟨by' b, 0⟩ ∧ Below w1.heap.size w1 w') := Lib.hid fun w1 => h.new b w1 (by omega)
  have HTB := Lib.hid (fun w1 p (q : PdAt Rep w1 p ⟨by' b, 0⟩) => h.rtexts w1 p _ q (by show (by' b).length ≤ _; rw [by_length]; omega))
  have HOk0 := Lib.hid (fun (hE : (texts ⟨by' b, 0⟩).2.E = 0) => texts_back (r := ⟨by' b, 0⟩) rfl hE)
  have HFt0 := Lib.hid (fun (hE : (texts ⟨by' b, 0⟩).2.E ≠ 0) => texts_fault (r := ⟨by' b, 0⟩) hE)
  have HMany := Lib.hid (texts_many (r := ⟨by' b, 0⟩))
  have HLn0 := Lib.hid (texts_len (r := ⟨by' b, 0⟩))
  unfold PdPostL at HTB
  obtain ⟨LB, hLB⟩ : ∃ LB, LB = (texts ⟨by' b, 0⟩).1 := ⟨_, rfl⟩
  obtain ⟨rB, hrB⟩ : ∃ rB, rB = (texts ⟨by' b, 0⟩).2 := ⟨_, rfl⟩
  rw [← hLB, ← hrB] at HTB HOk0 HFt0
  rw [← hLB] at HMany
  rw [← hrB] at HLn0
  have HLB := Lib.hid (fun w1 p (q : PdAt Rep w1 p rB) => h.left w1 p rB q (by have := HLn0.out; have h2 : (Rd.mk (by' b) 0).S.length = b.size := rfl; omega))
  obtain ⟨NB, hNB⟩ : ∃ NB, NB = rB.S.length := ⟨_, rfl⟩
  obtain ⟨XB, hXB⟩ : ∃ XB, XB = lstS LB := ⟨_, rfl⟩
  have HOk : Hid (rB.E = 0 → b.extract 0 (b.size - NB) = XB ∧ NB ≤ b.size ∧ lstE LB = 0 ∧ ∀ u w1, SlAt w1 u LB → Calls Try.prog 13 #[u] w1 fun e w' => e = .returned (.tuple #[.string XB, .int .i64 0]) ∧ Below w1.heap.size w1 w') := Lib.hid fun hE => by
    obtain ⟨q1, q2⟩ := HOk0.out hE
    obtain ⟨q3, q4⟩ := again q1 q2
    have q5 : b.size = (lst LB ++ rB.S).length := by rw [← q1]; rfl
    rw [List.length_append, lst_length] at q5
    refine ⟨by rw [hNB, hXB]; exact q3, by rw [hNB]; exact q4, q2, fun u w1 q => ?_⟩
    have := h.texts u LB w1 q (by omega) (by have := HMany.out; omega)
    rw [q2, ← hXB] at this
    exact this
  have HFt : Hid (rB.E ≠ 0 → LB.length = 0 ∧ NB = b.size) := Lib.hid fun hE => by
    obtain ⟨q1, q2⟩ := HFt0.out hE
    exact ⟨by rw [q1]; rfl, by rw [hNB, q2]; rfl⟩
  rw [← hNB] at HLB
  obtain ⟨EB, hEB⟩ : ∃ EB, EB = rB.E := ⟨_, rfl⟩
  rw [← hEB] at HTB HOk HFt
  clear HOk0 HFt0 HMany HLn0 hNB hXB hEB hLB hrB hbs
  have HSz := Lib.hid hs
  have HF := Lib.hid hF
  have HI := Lib.hid hI
  have U0 : Hid (Pu w v L w) := Lib.hid ⟨hl, Below.refl _ _, Nat.le_refl _⟩
  have HLen := Lib.hid hn1
  have hz : Hid ((s.size ≤ 65535 ∧ F = 0 ∧ I = 0) ∨ (s.size ≤ 65535 ∧ F = 0 ∧ I = 5) ∨ (¬ s.size ≤ 65535 ∧ F = 5)) := Lib.hid (by
    by_cases hq : s.size ≤ 65535
    · rw [if_pos hq] at hFi
      rcases hIi with h0 | h0
      · exact .inl ⟨hq, hFi, h0⟩
      · exact .inr (.inl ⟨hq, hFi, h0⟩)
    · rw [if_neg hq] at hFi
      exact .inr (.inr ⟨hq, hFi⟩))
  clear hb hR hL h hs hn1 hn2 hcat hcl hA hC hF hX hI hx0 hx1 hl hFi hIi
  go_enter Try.func5, Try.ntmps5
  go_wp2_with fail
  refine HLa.out.mono ?_; rintro e w1 ⟨rfl, hw⟩
  obtain rfl : w = w1 := hw.symm
  clear hw HLa
  go_wp2_with fail
  refine (H1.out _).mono ?_; rintro e w2 ⟨rfl, q2⟩
  have U1 := Lib.hid (U0.out.below q2)
  clear q2 U0 H1 e1 e2 e3 e4
  go_wp2_with fail
  refine (H3.out _).mono ?_; rintro e w3 ⟨rfl, q3⟩
  have U2 := Lib.hid (U1.out.below q3)
  clear q3 U1 H3
  go_wp2_with fail
  refine (H5.out _ _ U2.out.arg.slAt).mono ?_; rintro e w4 ⟨rfl, q4⟩
  have U3 := Lib.hid (U2.out.below q4)
  clear q4 U2 H5
  rcases hz.out with ⟨hq, h0, h1⟩ | ⟨hq, h0, h1⟩ | ⟨hq, h0⟩
  · have HNA := Lib.hid (HNS.out h0 h1)
    have HE := Lib.hid (And.intro (HF.out.symm.trans h0) (HI.out.symm.trans h1))
    have hsm := HSm.out h0 h1
    subst h0 h1
    have f1 : decide ((s.size : Int) ≤ 65535) = true := decide_eq_true (by omega)
    have f2 : (s.size : Int) ≤ 65535 := by omega
    have g1 : ¬ 9223372036854775807 < A.size + C.size := by omega
    have g2 : ¬ 9223372036854775807 < A.size + C.size + X.size := by omega
    have g3 : ¬ 9223372036854775807 < A.size + C.size + X.size + more.size := by omega
    have HC := Lib.hid (HBL.out (by' s) (by' more) hq (by rw [by_length]; have := HSz.out; omega))
    have HQ := Lib.hid hq
    have a1 := self_eq s
    have a2 : (x != x) = false := by simp
    have a3 : ((more.size : Int) != (more.size : Int)) = false := by simp
    clear hz hq HNS HBL hsm
    go_wp2_with fail
    refine (HNA.out _).mono ?_; rintro e w5 ⟨p, rfl, hp, hd, q5⟩
    have P5 : Hid (Pa Rep w p (b0 x (by' s) L (by' more)) w5) := Lib.hid ⟨hd, U3.out.low.trans (q5.mono U3.out.gs), Nat.le_trans U3.out.gs hp, Nat.le_trans U3.out.gs q5.size⟩
    clear hp hd q5 U3 HNA g1 g2 g3
    go_wp2_with fail
    have T5 : Calls Try.prog 19 #[.pointer (some ⟨p, 0, none⟩), .int .i64 4] w5 fun e w' => e = .returned (.tuple #[.int .u32 x, .int .i64 0]) ∧ PdAt Rep w' p (b1 (by' s) L (by' more)) ∧ w5.grownBy w' (some p) := by
      have := HH.out.rnum w5 p _ 4 P5.out.d HC.out.1
      rw [HB0.out] at this
      simp only [HX.out] at this
      exact this
    refine T5.mono ?_
    clear T5
    rintro e w6 ⟨rfl, d6, g6⟩
    have P6 := Lib.hid (P5.out.next d6 g6)
    clear d6 g6 P5
    go_wp2_with fail
    have T6 : Calls Try.prog 21 #[.pointer (some ⟨p, 0, none⟩)] w6 fun e w' => e = .returned (.tuple #[.string s, .int .i64 0]) ∧ PdAt Rep w' p (b2 L (by' more)) ∧ w6.grownBy w' (some p) := by
      have := HH.out.rtext w6 p _ P6.out.d HC.out.2.1
      rw [b1_text (by' s) L (by' more) HQ.out] at this
      simp only [tx_by] at this
      exact this
    refine T6.mono ?_
    clear T6
    rintro e w7 ⟨rfl, d7, g7⟩
    have P7 := Lib.hid (P6.out.next d7 g7)
    clear d7 g7 P6
    go_wp2_with fail
    have T7 : Calls Try.prog 23 #[.pointer (some ⟨p, 0, none⟩)] w7 fun e w' => ∃ u, e = .returned (.tuple #[u, .int .i64 0]) ∧ OwnL w7.heap.size L u w' ∧ PdAt Rep w' p (b3 (by' more)) ∧ w7.grownBy w' (some p) := by
      have := HH.out.rtexts w7 p _ P7.out.d HC.out.2.2.1
      rw [b2_texts _ _ HE.out.2] at this
      exact this
    refine T7.mono ?_
    clear T7
    rintro e w8 ⟨u, rfl, o8, d8, g8⟩
    have P8 : Hid (Pa Rep w p (b3 (by' more)) w8 ∧ SlAt w8 u L) := Lib.hid ⟨P7.out.next d8 g8, o8.slAt⟩
    clear d8 g8 o8 P7
    go_wp2_with fail
    have T8 : Calls Try.prog 15 #[u, v] w8 fun e w' => e = .returned (.bool true) ∧ ∃ n, w' = w8.drewN n := by
      have := rsame_any u v L L w8 P8.out.2 (HSl.out.below P8.out.1.low rfl).slAt (by have := HLen.out; omega)
      rw [decide_eq_true (show L = L from rfl)] at this
      exact this
    refine T8.mono ?_
    clear T8
    rintro e w9 ⟨rfl, m9, e9⟩
    have P9 : Hid (Pa Rep w p (b3 (by' more)) w9) := Lib.hid (by rw [e9]; exact P8.out.1.drewN _)
    clear e9 P8
    go_wp2_with fail
    have T9 : Calls Try.prog 27 #[.pointer (some ⟨p, 0, none⟩)] w9 fun e w' => e = .returned (.int .i64 (more.size : Int)) ∧ ∃ n, w' = w9.drewN n := HH.out.left w9 p (b3 (by' more)) P9.out.d HC.out.2.2.2
    refine T9.mono ?_
    clear T9
    rintro e w10 ⟨rfl, m10, e10⟩
    have P10 : Hid (Pa Rep w p (b3 (by' more)) w10) := Lib.hid (by rw [e10]; exact P9.out.drewN _)
    clear e10 P9
    by_cases hM : by' more = []
    · have hl0 : more.toList = [] := by rw [ByteArray.toList_eq]; exact hM
      have l2 : more.toList.isEmpty = true := by rw [hl0]; rfl
      have T10 : Calls Try.prog 25 #[.pointer (some ⟨p, 0, none⟩)] w10 fun e w' => e = .returned (.int .i64 0) ∧ PdAt Rep w' p (b3 []) ∧ w10.grownBy w' (some p) := by
        have := HH.out.fin w10 p (b3 (by' more)) P10.out.d HC.out.2.2.2
        rw [hM] at this
        exact this
      have HT := Lib.hid T10
      clear T10 hM hl0
      go_wp2_with fail
      refine HT.out.mono ?_; rintro e w11 ⟨rfl, d11, g11⟩
      have BL : Hid (Below w.heap.size w w11 ∧ w.heap.size ≤ w11.heap.size) := Lib.hid ⟨(P10.out.next d11 g11).low, (P10.out.next d11 g11).gs⟩
      clear d11 g11 P10 HT
      go_wp2_with fail
      refine (HNB.out _).mono ?_; rintro e v1 ⟨pb, rfl, hpb, db, qb⟩
      have P1 : Hid (Pa Rep w pb ⟨by' b, 0⟩ v1) := Lib.hid ⟨db, BL.out.1.trans (qb.mono BL.out.2), Nat.le_trans BL.out.2 hpb, Nat.le_trans BL.out.2 qb.size⟩
      clear hpb db qb BL HNB
      go_wp2_with fail
      refine (HTB.out _ _ P1.out.d).mono ?_; rintro e v2 ⟨m, rfl, o2, d2, g2⟩
      have P2 := Lib.hid (P1.out.next d2 g2)
      have S2 := Lib.hid o2.slAt
      clear d2 g2 o2 P1 HTB
      by_cases hE : EB = 0
      · have t1 : (EB != 0) = false := by simp [hE]
        obtain ⟨hx1, hx2, hx3, hx4⟩ := HOk.out hE
        have hx5 : decide ((b.size : Int) < (NB : Int)) = false := decide_eq_false (by omega)
        have hx6 : decide ((NB : Int) < 0) = false := decide_eq_false (by omega)
        have hx7 : IntKind.i64.wrap ((b.size : Int) - (NB : Int)) = (b.size : Int) - (NB : Int) := by rw [IntKind.wrap_i64]; have := HSb.out; omega
        have hx8 : ∀ W, (Instr.slice 9 (.string b) none (some (.int .i64 ((b.size : Int) - (NB : Int)))) none).run Try.prog W = .ok (.string XB) W := by
          intro W
          rw [run_slice_string_to_if W 9 b .i64 _ (by kernel_rfl), if_pos (by omega), show ((b.size : Int) - (NB : Int)).toNat = b.size - NB by omega, hx1]
        have hx9 := self_eq XB
        have HTx := Lib.hid hx4
        clear hE hx1 hx3 hx4 HOk HFt
        go_wp2_with fail
        refine (HLB.out _ _ P2.out.d).mono ?_; rintro e v3 ⟨rfl, m3, e3⟩
        have P3 : Hid (Pa Rep w pb rB v3 ∧ SlAt v3 m LB) := Lib.hid (by rw [e3]; exact ⟨P2.out.drewN _, S2.out.below (below_drewN _ _)⟩)
        clear e3 P2 S2
        go_wp2_with fail
        refine (HLB.out _ _ P3.out.1.d).mono ?_; rintro e v4 ⟨rfl, m4, e4⟩
        have P4 : Hid (Pa Rep w pb rB v4 ∧ SlAt v4 m LB) := Lib.hid (by rw [e4]; exact ⟨P3.out.1.drewN _, P3.out.2.below (below_drewN _ _)⟩)
        clear e4 P3
        go_wp2_with fail
        refine (HTx.out _ _ P4.out.2).mono ?_; rintro e v5 ⟨rfl, q5⟩
        have P5 := Lib.hid (P4.out.1.below q5)
        clear q5 P4 HTx
        go_wp2_with fail
        refine (HLB.out _ _ P5.out.d).mono ?_; rintro e v6 ⟨rfl, m6, e6⟩
        have P6 : Hid (Pa Rep w pb rB v6) := Lib.hid (by rw [e6]; exact P5.out.drewN _)
        clear e6 P5
        go_wp2_with fail
        refine (HA.out _).mono ?_; rintro e v7 ⟨rfl, q7⟩
        have HQ := Lib.hid (P6.out.below q7).low
        clear q7 P6
        go_wp2
        go_ret
        exact ⟨rfl, HQ.out⟩
      · have t1 : (EB != 0) = true := by rw [bne_iff_ne]; exact hE
        obtain ⟨hx1, hx2⟩ := HFt.out hE
        have hx3 : ∃ a c, m = .slice a 0 c := by obtain ⟨a, c, h, _⟩ := S2.out; rw [hx1] at h; exact ⟨a, c, h⟩
        obtain ⟨a, c, rfl⟩ := hx3
        rw [hx2] at HLB
        have hx4 : ((b.size : Int) == (b.size : Int)) = true := by simp
        clear hE hx1 hx2 HOk HFt S2
        go_wp2_with fail
        refine (HLB.out _ _ P2.out.d).mono ?_; rintro e v3 ⟨rfl, m3, e3⟩
        have P3 : Hid (Pa Rep w pb rB v3) := Lib.hid (by rw [e3]; exact P2.out.drewN _)
        clear e3 P2
        go_wp2_with fail
        refine (HA.out _).mono ?_; rintro e v7 ⟨rfl, q7⟩
        have HQ := Lib.hid (P3.out.below q7).low
        clear q7 P3
        go_wp2
        go_ret
        exact ⟨rfl, HQ.out⟩
    · have hl0 : more.toList ≠ [] := by rw [ByteArray.toList_eq]; exact hM
      have l2 : more.toList.isEmpty = false := by cases hq : more.toList with | nil => exact absurd hq hl0 | cons _ _ => rfl
      have T10 : Calls Try.prog 25 #[.pointer (some ⟨p, 0, none⟩)] w10 fun e w' => e = .returned (.int .i64 7) ∧ PdAt Rep w' p ⟨by' more, 7⟩ ∧ w10.grownBy w' (some p) := by
        have := HH.out.fin w10 p (b3 (by' more)) P10.out.d HC.out.2.2.2
        rw [b3_cons hM] at this
        exact this
      have HT := Lib.hid T10
      clear T10 hM hl0
      go_wp2_with fail
      refine HT.out.mono ?_; rintro e w11 ⟨rfl, d11, g11⟩
      have BL : Hid (Below w.heap.size w w11 ∧ w.heap.size ≤ w11.heap.size) := Lib.hid ⟨(P10.out.next d11 g11).low, (P10.out.next d11 g11).gs⟩
      clear d11 g11 P10 HT
      go_wp2_with fail
      refine (HNB.out _).mono ?_; rintro e v1 ⟨pb, rfl, hpb, db, qb⟩
      have P1 : Hid (Pa Rep w pb ⟨by' b, 0⟩ v1) := Lib.hid ⟨db, BL.out.1.trans (qb.mono BL.out.2), Nat.le_trans BL.out.2 hpb, Nat.le_trans BL.out.2 qb.size⟩
      clear hpb db qb BL HNB
      go_wp2_with fail
      refine (HTB.out _ _ P1.out.d).mono ?_; rintro e v2 ⟨m, rfl, o2, d2, g2⟩
      have P2 := Lib.hid (P1.out.next d2 g2)
      have S2 := Lib.hid o2.slAt
      clear d2 g2 o2 P1 HTB
      by_cases hE : EB = 0
      · have t1 : (EB != 0) = false := by simp [hE]
        obtain ⟨hx1, hx2, hx3, hx4⟩ := HOk.out hE
        have hx5 : decide ((b.size : Int) < (NB : Int)) = false := decide_eq_false (by omega)
        have hx6 : decide ((NB : Int) < 0) = false := decide_eq_false (by omega)
        have hx7 : IntKind.i64.wrap ((b.size : Int) - (NB : Int)) = (b.size : Int) - (NB : Int) := by rw [IntKind.wrap_i64]; have := HSb.out; omega
        have hx8 : ∀ W, (Instr.slice 9 (.string b) none (some (.int .i64 ((b.size : Int) - (NB : Int)))) none).run Try.prog W = .ok (.string XB) W := by
          intro W
          rw [run_slice_string_to_if W 9 b .i64 _ (by kernel_rfl), if_pos (by omega), show ((b.size : Int) - (NB : Int)).toNat = b.size - NB by omega, hx1]
        have hx9 := self_eq XB
        have HTx := Lib.hid hx4
        clear hE hx1 hx3 hx4 HOk HFt
        go_wp2_with fail
        refine (HLB.out _ _ P2.out.d).mono ?_; rintro e v3 ⟨rfl, m3, e3⟩
        have P3 : Hid (Pa Rep w pb rB v3 ∧ SlAt v3 m LB) := Lib.hid (by rw [e3]; exact ⟨P2.out.drewN _, S2.out.below (below_drewN _ _)⟩)
        clear e3 P2 S2
        go_wp2_with fail
        refine (HLB.out _ _ P3.out.1.d).mono ?_; rintro e v4 ⟨rfl, m4, e4⟩
        have P4 : Hid (Pa Rep w pb rB v4 ∧ SlAt v4 m LB) := Lib.hid (by rw [e4]; exact ⟨P3.out.1.drewN _, P3.out.2.below (below_drewN _ _)⟩)
        clear e4 P3
        go_wp2_with fail
        refine (HTx.out _ _ P4.out.2).mono ?_; rintro e v5 ⟨rfl, q5⟩
        have P5 := Lib.hid (P4.out.1.below q5)
        clear q5 P4 HTx
        go_wp2_with fail
        refine (HLB.out _ _ P5.out.d).mono ?_; rintro e v6 ⟨rfl, m6, e6⟩
        have P6 : Hid (Pa Rep w pb rB v6) := Lib.hid (by rw [e6]; exact P5.out.drewN _)
        clear e6 P5
        go_wp2_with fail
        refine (HA.out _).mono ?_; rintro e v7 ⟨rfl, q7⟩
        have HQ := Lib.hid (P6.out.below q7).low
        clear q7 P6
        go_wp2
        go_ret
        exact ⟨rfl, HQ.out⟩
      · have t1 : (EB != 0) = true := by rw [bne_iff_ne]; exact hE
        obtain ⟨hx1, hx2⟩ := HFt.out hE
        have hx3 : ∃ a c, m = .slice a 0 c := by obtain ⟨a, c, h, _⟩ := S2.out; rw [hx1] at h; exact ⟨a, c, h⟩
        obtain ⟨a, c, rfl⟩ := hx3
        rw [hx2] at HLB
        have hx4 : ((b.size : Int) == (b.size : Int)) = true := by simp
        clear hE hx1 hx2 HOk HFt S2
        go_wp2_with fail
        refine (HLB.out _ _ P2.out.d).mono ?_; rintro e v3 ⟨rfl, m3, e3⟩
        have P3 : Hid (Pa Rep w pb rB v3) := Lib.hid (by rw [e3]; exact P2.out.drewN _)
        clear e3 P2
        go_wp2_with fail
        refine (HA.out _).mono ?_; rintro e v7 ⟨rfl, q7⟩
        have HQ := Lib.hid (P3.out.below q7).low
        clear q7 P3
        go_wp2
        go_ret
        exact ⟨rfl, HQ.out⟩
  · subst h0 h1
    have f1 : decide ((s.size : Int) ≤ 65535) = true := decide_eq_true (by omega)
    have f2 : (s.size : Int) ≤ 65535 := by omega
    have BL : Hid (Below w.heap.size w w4 ∧ w.heap.size ≤ w4.heap.size) := Lib.hid ⟨U3.out.low, U3.out.gs⟩
    clear hz hq HNS HBL U3
    go_wp2_with fail
    refine (HNB.out _).mono ?_; rintro e v1 ⟨pb, rfl, hpb, db, qb⟩
    have P1 : Hid (Pa Rep w pb ⟨by' b, 0⟩ v1) := Lib.hid ⟨db, BL.out.1.trans (qb.mono BL.out.2), Nat.le_trans BL.out.2 hpb, Nat.le_trans BL.out.2 qb.size⟩
    clear hpb db qb BL HNB
    go_wp2_with fail
    refine (HTB.out _ _ P1.out.d).mono ?_; rintro e v2 ⟨m, rfl, o2, d2, g2⟩
    have P2 := Lib.hid (P1.out.next d2 g2)
    have S2 := Lib.hid o2.slAt
    clear d2 g2 o2 P1 HTB
    by_cases hE : EB = 0
    · have t1 : (EB != 0) = false := by simp [hE]
      obtain ⟨hx1, hx2, hx3, hx4⟩ := HOk.out hE
      have hx5 : decide ((b.size : Int) < (NB : Int)) = false := decide_eq_false (by omega)
      have hx6 : decide ((NB : Int) < 0) = false := decide_eq_false (by omega)
      have hx7 : IntKind.i64.wrap ((b.size : Int) - (NB : Int)) = (b.size : Int) - (NB : Int) := by rw [IntKind.wrap_i64]; have := HSb.out; omega
      have hx8 : ∀ W, (Instr.slice 9 (.string b) none (some (.int .i64 ((b.size : Int) - (NB : Int)))) none).run Try.prog W = .ok (.string XB) W := by
        intro W
        rw [run_slice_string_to_if W 9 b .i64 _ (by kernel_rfl), if_pos (by omega), show ((b.size : Int) - (NB : Int)).toNat = b.size - NB by omega, hx1]
      have hx9 := self_eq XB
      have HTx := Lib.hid hx4
      clear hE hx1 hx3 hx4 HOk HFt
      go_wp2_with fail
      refine (HLB.out _ _ P2.out.d).mono ?_; rintro e v3 ⟨rfl, m3, e3⟩
      have P3 : Hid (Pa Rep w pb rB v3 ∧ SlAt v3 m LB) := Lib.hid (by rw [e3]; exact ⟨P2.out.drewN _, S2.out.below (below_drewN _ _)⟩)
      clear e3 P2 S2
      go_wp2_with fail
      refine (HLB.out _ _ P3.out.1.d).mono ?_; rintro e v4 ⟨rfl, m4, e4⟩
      have P4 : Hid (Pa Rep w pb rB v4 ∧ SlAt v4 m LB) := Lib.hid (by rw [e4]; exact ⟨P3.out.1.drewN _, P3.out.2.below (below_drewN _ _)⟩)
      clear e4 P3
      go_wp2_with fail
      refine (HTx.out _ _ P4.out.2).mono ?_; rintro e v5 ⟨rfl, q5⟩
      have P5 := Lib.hid (P4.out.1.below q5)
      clear q5 P4 HTx
      go_wp2_with fail
      refine (HLB.out _ _ P5.out.d).mono ?_; rintro e v6 ⟨rfl, m6, e6⟩
      have P6 : Hid (Pa Rep w pb rB v6) := Lib.hid (by rw [e6]; exact P5.out.drewN _)
      clear e6 P5
      go_wp2_with fail
      refine (HA.out _).mono ?_; rintro e v7 ⟨rfl, q7⟩
      have HQ := Lib.hid (P6.out.below q7).low
      clear q7 P6
      go_wp2
      go_ret
      exact ⟨rfl, HQ.out⟩
    · have t1 : (EB != 0) = true := by rw [bne_iff_ne]; exact hE
      obtain ⟨hx1, hx2⟩ := HFt.out hE
      have hx3 : ∃ a c, m = .slice a 0 c := by obtain ⟨a, c, h, _⟩ := S2.out; rw [hx1] at h; exact ⟨a, c, h⟩
      obtain ⟨a, c, rfl⟩ := hx3
      rw [hx2] at HLB
      have hx4 : ((b.size : Int) == (b.size : Int)) = true := by simp
      clear hE hx1 hx2 HOk HFt S2
      go_wp2_with fail
      refine (HLB.out _ _ P2.out.d).mono ?_; rintro e v3 ⟨rfl, m3, e3⟩
      have P3 : Hid (Pa Rep w pb rB v3) := Lib.hid (by rw [e3]; exact P2.out.drewN _)
      clear e3 P2
      go_wp2_with fail
      refine (HA.out _).mono ?_; rintro e v7 ⟨rfl, q7⟩
      have HQ := Lib.hid (P3.out.below q7).low
      clear q7 P3
      go_wp2
      go_ret
      exact ⟨rfl, HQ.out⟩
  · subst h0
    have f1 : decide ((s.size : Int) ≤ 65535) = false := decide_eq_false (by omega)
    have f2 : ¬ (s.size : Int) ≤ 65535 := by omega
    have BL : Hid (Below w.heap.size w w4 ∧ w.heap.size ≤ w4.heap.size) := Lib.hid ⟨U3.out.low, U3.out.gs⟩
    clear hz hq HNS HBL U3
    go_wp2_with fail
    refine (HNB.out _).mono ?_; rintro e v1 ⟨pb, rfl, hpb, db, qb⟩
    have P1 : Hid (Pa Rep w pb ⟨by' b, 0⟩ v1) := Lib.hid ⟨db, BL.out.1.trans (qb.mono BL.out.2), Nat.le_trans BL.out.2 hpb, Nat.le_trans BL.out.2 qb.size⟩
    clear hpb db qb BL HNB
    go_wp2_with fail
    refine (HTB.out _ _ P1.out.d).mono ?_; rintro e v2 ⟨m, rfl, o2, d2, g2⟩
    have P2 := Lib.hid (P1.out.next d2 g2)
    have S2 := Lib.hid o2.slAt
    clear d2 g2 o2 P1 HTB
    by_cases hE : EB = 0
    · have t1 : (EB != 0) = false := by simp [hE]
      obtain ⟨hx1, hx2, hx3, hx4⟩ := HOk.out hE
      have hx5 : decide ((b.size : Int) < (NB : Int)) = false := decide_eq_false (by omega)
      have hx6 : decide ((NB : Int) < 0) = false := decide_eq_false (by omega)
      have hx7 : IntKind.i64.wrap ((b.size : Int) - (NB : Int)) = (b.size : Int) - (NB : Int) := by rw [IntKind.wrap_i64]; have := HSb.out; omega
      have hx8 : ∀ W, (Instr.slice 9 (.string b) none (some (.int .i64 ((b.size : Int) - (NB : Int)))) none).run Try.prog W = .ok (.string XB) W := by
        intro W
        rw [run_slice_string_to_if W 9 b .i64 _ (by kernel_rfl), if_pos (by omega), show ((b.size : Int) - (NB : Int)).toNat = b.size - NB by omega, hx1]
      have hx9 := self_eq XB
      have HTx := Lib.hid hx4
      clear hE hx1 hx3 hx4 HOk HFt
      go_wp2_with fail
      refine (HLB.out _ _ P2.out.d).mono ?_; rintro e v3 ⟨rfl, m3, e3⟩
      have P3 : Hid (Pa Rep w pb rB v3 ∧ SlAt v3 m LB) := Lib.hid (by rw [e3]; exact ⟨P2.out.drewN _, S2.out.below (below_drewN _ _)⟩)
      clear e3 P2 S2
      go_wp2_with fail
      refine (HLB.out _ _ P3.out.1.d).mono ?_; rintro e v4 ⟨rfl, m4, e4⟩
      have P4 : Hid (Pa Rep w pb rB v4 ∧ SlAt v4 m LB) := Lib.hid (by rw [e4]; exact ⟨P3.out.1.drewN _, P3.out.2.below (below_drewN _ _)⟩)
      clear e4 P3
      go_wp2_with fail
      refine (HTx.out _ _ P4.out.2).mono ?_; rintro e v5 ⟨rfl, q5⟩
      have P5 := Lib.hid (P4.out.1.below q5)
      clear q5 P4 HTx
      go_wp2_with fail
      refine (HLB.out _ _ P5.out.d).mono ?_; rintro e v6 ⟨rfl, m6, e6⟩
      have P6 : Hid (Pa Rep w pb rB v6) := Lib.hid (by rw [e6]; exact P5.out.drewN _)
      clear e6 P5
      go_wp2_with fail
      refine (HA.out _).mono ?_; rintro e v7 ⟨rfl, q7⟩
      have HQ := Lib.hid (P6.out.below q7).low
      clear q7 P6
      go_wp2
      go_ret
      exact ⟨rfl, HQ.out⟩
    · have t1 : (EB != 0) = true := by rw [bne_iff_ne]; exact hE
      obtain ⟨hx1, hx2⟩ := HFt.out hE
      have hx3 : ∃ a c, m = .slice a 0 c := by obtain ⟨a, c, h, _⟩ := S2.out; rw [hx1] at h; exact ⟨a, c, h⟩
      obtain ⟨a, c, rfl⟩ := hx3
      rw [hx2] at HLB
      have hx4 : ((b.size : Int) == (b.size : Int)) = true := by simp
      clear hE hx1 hx2 HOk HFt S2
      go_wp2_with fail
      refine (HLB.out _ _ P2.out.d).mono ?_; rintro e v3 ⟨rfl, m3, e3⟩
      have P3 : Hid (Pa Rep w pb rB v3) := Lib.hid (by rw [e3]; exact P2.out.drewN _)
      clear e3 P2
      go_wp2_with fail
      refine (HA.out _).mono ?_; rintro e v7 ⟨rfl, q7⟩
      have HQ := Lib.hid (P3.out.below q7).low
      clear q7 P3
      go_wp2
      go_ret
      exact ⟨rfl, HQ.out⟩
theorem back_any (h : PackOK Rep) (x : Int) (hx0 : 0 ≤ x) (hx1 : x < 4294967296) (s more b : ByteArray) (v : Value) (L : List (List UInt8)) (w : World) (hl : SlArg w v L) (hR : ∀ j, j < L.length → (L.getD j []).length ≤ 140737488355328) (hL : L.length ≤ 140737488355328)
    (h1 : s.size ≤ 281474976710656) (h2 : more.size ≤ 281474976710656) (h3 : b.size ≤ 281474976710656) : Calls Try.prog 5 #[.int .u32 x, .string s, v, .string more, .string b] w fun e w' => e = .returned (.bool true) ∧ Below w.heap.size w w' := by
  cases hb : largeB L with
  | true => exact back_large h x s more b v L w hl hR hL hb
  | false =>
    by_cases hs : s.size + more.size + b.size ≤ 65536
    · exact back_main h x hx0 hx1 s more b v L w hl hR hL hb hs
    · exact back_long h x s more b v L w hl hR hL hb h1 h2 h3 (by omega)
end
end Go.Proofs.Ytijfdnaolgbpmaa
