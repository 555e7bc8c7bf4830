/- The program's resolver.find and linkable. -/
import Derived.Test.YtfnofolahhoggaaUC
set_option linter.unusedVariables false
set_option linter.unusedSimpArgs false
namespace Go.Proofs.Ytfnofolahhoggaa
open Go Go.RowKit Go.Maps Oj Rv

/-- What a place and a mark are, cell by cell. -/
theorem plT_parts (o : Option (Nat × Nat)) : ∃ (x y : Int) (B : Bool), plT o = .tuple #[.agg #[.int .i64 x, .int .i64 y], .bool B] ∧ plV o = .agg #[.int .i64 x, .int .i64 y] ∧ B = o.isSome ∧ x = ((o.getD (0, 0)).1 : Nat) ∧ y = ((o.getD (0, 0)).2 : Nat) := ⟨_, _, _, rfl, rfl, rfl, rfl, rfl⟩
theorem winner_all (l : List Ob) (b n : Nat) (t : ByteArray) (ht : t.size ≤ 140737488355328) (w : World) (h : EntIs w b n (entB l (allP l))) :
    Calls Try.prog 29 #[.map (some b), .string t] w fun e w' => e = .returned (plT (winL l (by' t))) ∧ Below w.heap.size w w' := by
  have h2 := winner_any b n _ t ht w h
  rw [ent_win] at h2
  exact h2
theorem findL_out (l : List Ob) (nm : List UInt8) : findL l (-1) nm = winL l nm := by unfold findL; rw [if_neg (by omega)]
theorem findL_own (l : List Ob) (k : Nat) (nm : List UInt8) : findL l (k : Int) nm = match ownS (symsN l k) nm with | some j => some (k, j) | none => winL l nm := by
  unfold findL
  rw [if_pos (by omega), Int.toNat_natCast, own_eq]
  cases ownS (symsN l k) nm <;> rfl

set_option maxHeartbeats 8000000 in
set_option maxRecDepth 100000 in
theorem vfind_any (l : List Ob) (b n : Nat) (vs : Value) (fr : Int) (nm : ByteArray) (hf : obsFit l) (hfr : fr = -1 ∨ (0 ≤ fr ∧ fr < l.length)) (ht : nm.size ≤ 140737488355328) (w : World) (h : EntIs w b n (entB l (allP l))) (hA : ObsAt w vs l) :
    Calls Try.prog 24 #[.agg #[.map (some b), vs], .int .i64 fr, .string nm] w fun e w' => e = .returned (plT (findL l fr (by' nm))) ∧ Below w.heap.size w w' := by
  have HW := Lib.hid (fun W (hq : Below w.heap.size w W) => winner_all l b n nm ht W (h.below hq))
  obtain ⟨x, y, B, hp, -⟩ := plT_parts (winL l (by' nm))
  rw [hp] at HW
  have hsz : ((w.alloc (.cells #[.map (some b), vs] 60)).heap.size) = w.heap.size + 1 := by simp
  obtain ⟨a, c, rfl, h2⟩ := hA.one
  have HB := Lib.hid (below_box (below_new1 w (.cells #[.map (some b), .slice a l.length c] 60)) (.cells #[.int .i64 0, .int .i64 0] 24))
  have hX := Blk.new (w.alloc (.cells #[.map (some b), .slice a l.length c] 60)) 24 [.int .i64 0, .int .i64 0]
  have HY := Lib.hid ((Blk.new w 60 [.map (some b), .slice a l.length c]).alloc (.cells #[.int .i64 0, .int .i64 0] 24))
  have hsz : ((w.alloc (.cells #[.map (some b), .slice a l.length c] 60)).heap.size) = w.heap.size + 1 := by simp
  rw [hsz] at hX
  have HX := Lib.hid hX
  obtain ⟨n0, hn⟩ : ∃ n0, n0 = l.length := ⟨_, rfl⟩
  have hni : (n0 : Int) ≤ 3518437208884 := by have := hf.1; omega
  rw [← hn] at h2 HB HX HY hfr ⊢
  rcases hfr with rfl | ⟨hf0, hf1⟩
  · rw [findL_out, hp]
    clear hf h2 hn hsz hX hp hA h
    go_enter Try.func24, Try.ntmps24
    go_wp2_with fail
    refine (HW.out _ HB.out).mono ?_; rintro e w2 ⟨rfl, q2⟩
    have HB2 := Lib.hid (below_call HB.out q2)
    have HX2 := Lib.hid (HX.out.call q2)
    clear q2
    obtain ⟨e0, e1, f0, f1, hl2⟩ := HX2.out.st2
    go_wp2_with fail
    refine bodyPost_ret (res_pl_tmp Try.results24 _ _ (w.heap.size + 1) _ _ _ rfl rfl (HX2.out.put2 _ _)) rfl ⟨rfl, below_put2 HB2.out (Nat.le_succ _) _ _⟩
  · obtain ⟨k, rfl⟩ := Int.eq_ofNat_of_zero_le hf0
    have hlt : k < n0 := by omega
    obtain ⟨gb, o, rfl, hbl, hcl⟩ := h2 (by omega)
    obtain ⟨vk, c0, c1, hS⟩ := hcl k hlt
    have hfk := (hf.2 k (by rw [← hn]; exact hlt)).2.1
    have HL := Lib.hid (fun W (hq : Below w.heap.size w W) => local_any (tx (l.getD k Ob.nought).name) vk (symsN l k) nm W (hS.below hq) hfk)
    have hfind := findL_own l k (by' nm)
    obtain ⟨O, hO⟩ : ∃ O, O = ownS (symsN l k) (by' nm) := ⟨_, rfl⟩
    obtain ⟨M, hM⟩ : ∃ M, M = tx (l.getD k Ob.nought).name := ⟨_, rfl⟩
    rw [← hO] at HL hfind
    rw [← hM] at HL c0
    have HE := Lib.hid hfind
    have HP := Lib.hid hp
    obtain ⟨ak, nk, ck, hvk⟩ : ∃ ak nk ck, vk = .slice ak nk ck := by
      obtain ⟨ak, ck, h9, _⟩ := hS.get
      exact ⟨ak, _, ck, h9⟩
    subst hvk
    have d0 := (HB.out.cell (p := ⟨gb, o + k * 2, none⟩) hbl).trans c0
    have d1 := (HB.out.cell (p := ⟨gb, o + k * 2 + 1, none⟩) hbl).trans c1
    have y1 := HY.out.cell 1
    have hne : ¬ ((k : Int) = -1) := by omega
    have hnb : ((k : Int) != -1) = true := by rw [bne_iff_ne]; exact hne
    have hge : (0 : Int) ≤ (k : Int) := by omega
    clear hf hn hsz hX hp hA h hfind hO hM c0 c1 hcl hf0 hS hfk
    have hd : decide ((k : Int) = -1) = false := decide_eq_false hne
    clear hne
    cases O with
    | some j =>
      have hj : (0 : Int) ≤ (j : Int) := by omega
      go_enter Try.func24, Try.ntmps24
      go_wp2_with fail
      refine (HL.out _ HB.out).mono ?_; rintro e w2 ⟨rfl, q2⟩
      have HB2 := Lib.hid (below_call HB.out q2)
      have HX2 := Lib.hid (HX.out.call q2)
      clear q2
      unfold ownI
      obtain ⟨e0, e1, f0, f1, hl2⟩ := HX2.out.st2
      go_wp2_with fail
      refine bodyPost_ret (res_pl_tmp Try.results24 _ _ (w.heap.size + 1) _ _ _ rfl rfl (HX2.out.put2 _ _)) rfl ⟨by rw [HE.out]; rfl, below_put2 HB2.out (Nat.le_succ _) _ _⟩
    | none =>
      go_enter Try.func24, Try.ntmps24
      go_wp2_with fail
      refine (HL.out _ HB.out).mono ?_; rintro e w2 ⟨rfl, q2⟩
      have HB2 := Lib.hid (below_call HB.out q2)
      have HX2 := Lib.hid (HX.out.call q2)
      have y0 := (HY.out.call q2).cell 0
      clear q2
      unfold ownI
      go_wp2_with fail
      refine (HW.out _ HB2.out).mono ?_; rintro e w3 ⟨rfl, q3⟩
      have HB3 := Lib.hid (below_call HB2.out q3)
      have HX3 := Lib.hid (HX2.out.call q3)
      clear q3 y0
      obtain ⟨e0, e1, f0, f1, hl2⟩ := HX3.out.st2
      go_wp2_with fail
      refine bodyPost_ret (res_pl_tmp Try.results24 _ _ (w.heap.size + 1) _ _ _ rfl rfl (HX3.out.put2 _ _)) rfl ⟨by rw [HE.out, HP.out]; rfl, below_put2 HB3.out (Nat.le_succ _) _ _⟩

set_option maxHeartbeats 8000000 in
set_option maxRecDepth 100000 in
theorem linkable_any (l : List Ob) (v : Value) (hf : obsFit l) (w : World) (hA : ObsAt w v l) : Calls Try.prog 32 #[v] w fun e w' => e = .returned (.bool (linkOk l)) ∧ Below w.heap.size w w' := by
  have HI := Lib.hid (fun (v : Value) (x : Ob) (hx : obFits x) W (hq : ObAt W v x) => ocheck_any v x hx W hq)
  obtain ⟨a, c, rfl, h2⟩ := hA.one
  obtain ⟨n, hn⟩ : ∃ n, n = l.length := ⟨_, rfl⟩
  have hni : (n : Int) ≤ 3518437208884 := by have := hf.1; omega
  rw [← hn] at h2 ⊢
  have H2 := Lib.hid h2
  have HN := Lib.hid hn
  have HF := Lib.hid hf.2
  have HB0 := Lib.hid (Below.refl w.heap.size w)
  clear hn h2 hf hA
  by_cases h16 : n ≤ 16
  · have hi16 : (n : Int) ≤ 16 := by omega
    have HL : Hid (linkOk l = allN n fun i => obOk (l.getD i Ob.nought)) := Lib.hid (by unfold linkOk; rw [← HN.out, decide_eq_true h16, Bool.true_and])
    clear h16
    go_enter Try.func32, Try.ntmps32
    go_wp2_with fail
    go_loopw [10] (fun i wr => ∃ k : Nat, (k : Int) ≤ n ∧ i = .int .i64 k ∧ Hid (∀ j, j < k → obOk (l.getD j Ob.nought) = true) ∧ Hid (Below w.heap.size w wr)) (fun i _ => n - (intOf i).toNat)
    case atStart => exact ⟨0, by omega, rfl, Lib.hid fun j hj => absurd hj (by omega), HB0⟩
    case round =>
      clear HB0
      obtain ⟨k, hk, rfl, HK, HB⟩ := hrel
      by_cases hlt : k < n
      · obtain ⟨b, o, rfl, hbl, hcl⟩ := H2.out (by omega)
        obtain ⟨vk, c0, c1, hS⟩ := hcl k hlt
        have hd : decide (k < n) = true := decide_eq_true hlt
        have HC := Lib.hid (fun W (hq : Below w.heap.size w W) => HI.out (.agg #[.string (tx (l.getD k Ob.nought).name), vk]) (l.getD k Ob.nought) (HF.out k (by rw [← HN.out]; exact hlt)) W ⟨vk, rfl, hS.below hq⟩)
        obtain ⟨M, hM⟩ : ∃ M, M = tx (l.getD k Ob.nought).name := ⟨_, rfl⟩
        obtain ⟨p, hp⟩ : ∃ p, p = obOk (l.getD k Ob.nought) := ⟨_, rfl⟩
        rw [← hM] at HC c0
        rw [← hp] at HC
        have HP := Lib.hid hp
        obtain ⟨ak, nk, ck, hvk⟩ : ∃ ak nk ck, vk = .slice ak nk ck := by
          obtain ⟨ak, ck, h9, _⟩ := hS.get
          exact ⟨ak, _, ck, h9⟩
        subst hvk
        have hbr : b < wr.heap.size := Nat.lt_of_lt_of_le hbl HB.out.size
        have d0 := (HB.out.cell (p := ⟨b, o + k * 2, none⟩) hbl).trans c0
        have d1 := (HB.out.cell (p := ⟨b, o + k * 2 + 1, none⟩) hbl).trans c1
        have HB1 := Lib.hid (below_box HB.out (.cells #[.string M, .slice ak nk ck] 43))
        clear hM hp c0 c1 hcl hS
        cases p with
        | true =>
          have HK2 : Hid (∀ j, j < k + 1 → obOk (l.getD j Ob.nought) = true) := Lib.hid fun j hj => by
            by_cases hx : j = k
            · subst hx; exact HP.out.symm
            · exact HK.out j (by omega)
          clear HK HP
          go_wp2_with fail
          refine (HC.out _ HB1.out).mono ?_; rintro e w2 ⟨rfl, q2⟩
          have HB2 := Lib.hid (below_call HB1.out q2)
          clear q2
          unfold okI
          go_wp2_with fail
          go_roundw
          case rel => exact ⟨k + 1, by omega, by go_num, HK2, HB2⟩
          case measure => simp [intOf]; omega
        | false =>
          have HR : Hid (linkOk l = false) := Lib.hid (by rw [HL.out]; exact allN_false (k := k) hlt HP.out.symm)
          clear HK HP
          go_wp2_with fail
          refine (HC.out _ HB1.out).mono ?_; rintro e w2 ⟨rfl, q2⟩
          have HB2 := Lib.hid (below_call HB1.out q2)
          clear q2
          unfold okI
          go_wp2_with fail
          go_ret
          exact ⟨by rw [HR.out]; rfl, HB2.out⟩
      · have hd : decide (k < n) = false := decide_eq_false hlt
        have HR : Hid (linkOk l = true) := Lib.hid (by rw [HL.out]; exact allN_true fun j hj => HK.out j (by omega))
        clear hlt HK
        go_wp2
        go_ret
        exact ⟨by rw [HR.out]; rfl, HB.out⟩
  · have hi16 : (16 : Int) < (n : Int) := by omega
    have HR : Hid (linkOk l = false) := Lib.hid (by unfold linkOk; rw [← HN.out, decide_eq_false h16, Bool.false_and])
    clear h16
    go_enter Try.func32, Try.ntmps32
    go_wp2_with fail
    go_ret
    exact ⟨by rw [HR.out]; rfl, HB0.out⟩
end Go.Proofs.Ytfnofolahhoggaa
