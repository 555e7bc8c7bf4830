/- ObjfileAll, walked. -/
import Derived.Test.YtbpdoiikleaidaaX48
import Derived.Test.YtbpdoiikleaidaaX54
import Derived.LoopTactic
set_option linter.unusedVariables false
set_option linter.unusedSimpArgs false
namespace Go.Proofs.Ytbpdoiikleaidaa
open Go Go.RowKit Oj Pk Of

def strC8 (L : List (List UInt8)) (j : Nat) : List Value := [.string (tx (L.getD j []))]
theorem flat_strC8 (L : List (List UInt8)) : ∀ n, n ≤ L.length → flat (strC8 L) n = strsV (L.take n)
  | 0, _ => by simp [flat, strsV]
  | n + 1, h => by
    rw [flat, flat_strC8 L n (by omega), List.take_succ_eq_append_getElem (by omega), strsV, strsV, List.map_append]
    simp [strC8, List.getD, show n < L.length by omega]
theorem slC_strs {w : World} {v : Value} {L : List (List UInt8)} (h : SlAt w v L) : SlC w v L.length 1 (strC8 L) := by
  obtain ⟨a, c, rfl, h2⟩ := h
  refine ⟨a, c, rfl, fun hn => ?_⟩
  obtain ⟨b, o, rfl, h3, h4⟩ := h2 (fun e => by rw [e] at hn; exact absurd hn (by decide))
  refine ⟨b, o, rfl, h3, fun j hj i u hu => ?_⟩
  cases i with
  | zero =>
    simp only [strC8, List.getElem?_cons_zero, Option.some.injEq] at hu
    subst hu
    rw [Nat.mul_one, Nat.add_zero]
    exact h4 j hj
  | succ i => simp [strC8] at hu
def tot8 (L : List (List UInt8)) : Nat := (L.map List.length).sum
theorem tot8_snoc (L : List (List UInt8)) (k : Nat) (h : k < L.length) : tot8 (L.take (k + 1)) = tot8 (L.take k) + (L.getD k []).length := by
  rw [List.take_succ_eq_append_getElem h]
  unfold tot8
  rw [List.map_append, List.sum_append, List.getD_eq_getElem?_getD, List.getElem?_eq_getElem h]
  simp
theorem tot8_take (L : List (List UInt8)) (B : Nat) (hR : ∀ j, j < L.length → (L.getD j []).length ≤ B) : ∀ k, tot8 (L.take k) ≤ k * B
  | 0 => by simp [tot8]
  | k + 1 => by
    have ih := tot8_take L B hR k
    by_cases hk : k < L.length
    · rw [tot8_snoc L k hk, Nat.add_mul]
      have := hR k hk
      omega
    · rw [List.take_of_length_le (by omega)] at ih ⊢
      rw [Nat.add_mul]
      omega
theorem tot8_le : ∀ (L : List (List UInt8)) (j : Nat), j < L.length → (L.getD j []).length ≤ tot8 L
  | [], j, h => absurd h (Nat.not_lt_zero j)
  | x :: l, 0, _ => by simp [tot8]
  | x :: l, j + 1, h => by
    have ih := tot8_le l j (by simpa using h)
    simp only [List.getD_cons_succ]
    unfold tot8 at ih ⊢
    simp only [List.map_cons, List.sum_cons]
    omega
set_option maxHeartbeats 16000000 in
set_option maxRecDepth 100000 in
theorem all_any (v : Value) (L : List (List UInt8)) (w : World) (hs : SlAt w v L) (hR : ∀ j, j < L.length → (L.getD j []).length ≤ 140737488355328) (hL : L.length ≤ 140737488355328) :
    Calls Try.prog 4 #[v] w fun e w' => e = .returned (.bool true) ∧ Below w.heap.size w w' := by
  obtain ⟨i0, hi, hz, hsz, hb⟩ := info_parts infoStr
  have HI0 := Lib.hid (And.intro hi (And.intro hz (And.intro hsz hb)))
  clear hi hz hsz hb
  obtain ⟨iO, hi, hz, hsz, hb⟩ := info_parts infoOb2
  have HI := Lib.hid (And.intro hi (And.intro hz (And.intro hsz hb)))
  clear hi hz hsz hb
  have HAl := Lib.hid (fun W => falive_any W)
  have HS := Lib.hid hs
  obtain ⟨al, cl, rfl, h2⟩ := hs
  obtain ⟨n, hn⟩ : ∃ n, n = L.length := ⟨_, rfl⟩
  have HSl : Hid (0 < n → ∃ b o, al = some ⟨b, o, none⟩ ∧ b < w.heap.size ∧ ∀ j, j < n → w.cell? ⟨b, o + j, none⟩ = some (.string (tx (L.getD j [])))) := Lib.hid (fun h => by
    rw [hn]
    exact h2 (fun e => by rw [hn, e] at h; exact absurd h (by decide)))
  have HSz := Lib.hid (fun j (hj : j < n) => hR j (by omega))
  have HTk := Lib.hid (fun k => tot8_take L _ hR k)
  have HTs := Lib.hid (fun k (hk : k < n) => tot8_snoc L k (by omega))
  have HEl : Hid (∀ N : Int, N = (tot8 (L.take n) : Nat) → N ≤ 32768 → ∀ j, j < n → (L.getD j []).length ≤ 32768) := Lib.hid (fun N h1 h2 j hj => by
    rw [hn, List.take_length] at h1
    have := tot8_le L j (by omega)
    omega)
  have HAll : Hid (n ≤ 20 → (∀ j, j < n → (L.getD j []).length ≤ 32768) → ∀ v W, SlAt W v L → Calls Try.prog 15 #[v] W (AllPost W L)) := Lib.hid (fun h1 h2 v W h => fall_any v L W h (fun j hj => by have := h2 j (by omega); omega) (by omega))
  have HDG : Hid ((∀ j, j < n → (L.getD j []).length ≤ 32768) → ∀ k, k < n → ∀ W, Calls Try.prog 14 #[.string (tx (L.getD k []))] W fun e w' => ∃ v : Value, ∃ c : Int, e = .returned (.tuple #[v, .int .i64 c]) ∧ Below W.heap.size W w' ∧ GetPost W.heap.size (getO (L.getD k [])) c v w') := Lib.hid (fun h k hk W => dget_any (L.getD k []) W (by have := h k hk; omega))
  have HAt := Lib.hid (fun j (hj : j < n) => objsOf_at L j (by omega))
  have HFit : Hid (∀ j, j < n → obFits ((objsOf L).getD j Ob.nought)) := Lib.hid (fun j hj => by rw [objsOf_at L j (by omega)]; exact theOb_fits)
  have HLO : Hid ((objsOf L).length = n) := Lib.hid (by unfold objsOf; rw [List.length_map, hn])
  -- what All has left
  have HPost : Hid (∀ e W W', AllPost W L e W' → Below W.heap.size W W' ∧ ∃ (K : Nat) (xa : Option Addr) (xn xc : Nat) (E : Int), e = .returned (.tuple #[.slice xa xn xc, .int .i64 (K : Int), .int .i64 E]) ∧ K ≤ n ∧ (∀ j, j < K → (getO (L.getD j [])).isSome = true) ∧ (K < n → xn = 0 ∧ E = 7 ∧ getO (L.getD K []) = none) ∧ (K = n → xn = n ∧ E = 0 ∧ ObsAt W' (.slice xa xn xc) (objsOf L))) := Lib.hid (by
    rintro e W W' ⟨h1, h2⟩
    refine ⟨h1, ?_⟩
    rcases h2 with ⟨k, hk, h3, h4, rfl⟩ | ⟨h3, a, c, S, rfl, h5⟩
    · exact ⟨k, none, 0, 0, 7, rfl, by omega, h3, fun _ => ⟨rfl, rfl, h4⟩, fun h => absurd h (by omega)⟩
    · refine ⟨n, a, n, c, 0, by rw [hn], Nat.le_refl _, fun j hj => h3 j (by omega), fun h => absurd h (by omega), fun _ => ⟨rfl, rfl, ?_⟩⟩
      have hl : (objsOf L).length = L.length := by unfold objsOf; rw [List.length_map]
      rw [← hl] at h5
      have := h5.all
      rw [hl, ← hn] at this
      exact this)
  have hsC : Hid (∀ W, SlAt W (.slice al n cl) L → SlC W (.slice al n cl) n 1 (strC8 L)) := Lib.hid (fun W h => by have := slC_strs h; rw [← hn] at this; exact this)
  have hfl : Hid (flat (strC8 L) n = strsV L) := Lib.hid (by rw [flat_strC8 L n (by omega), hn, List.take_length])
  have hni : (n : Int) ≤ 140737488355328 := by omega
  have HOwn : Hid (∀ B v W, W.ownsRow B 9 1 v n (flat (strC8 L) n) → SlAt W v L) := Lib.hid (fun B v W h => by
    rw [hfl.out, hn] at h
    exact OwnL.slAt h)
  rw [← hn] at HS ⊢
  obtain ⟨OS, hOS⟩ : ∃ O, O = objsOf L := ⟨_, rfl⟩
  rw [← hOS] at HAt HFit HPost HLO
  clear h2 hn hR hL hOS
  go_enter Try.func4, Try.ntmps4
  go_wp2_with fail
  go_loopw [3, 4] (fun t3 i wr => ∃ (k : Nat) (N : Int), (k : Int) ≤ n ∧ (k : Int) ≤ 100 ∧ i = .int .i64 k ∧ t3 = .int .i64 N ∧ Hid (N = (tot8 (L.take k) : Nat)) ∧ wr = w) (fun _ i _ => n - (intOf i).toNat)
  case atStart => exact ⟨0, 0, by omega, by omega, rfl, rfl, Lib.hid (by simp [tot8]), rfl⟩
  case round =>
    obtain ⟨k, N, hk, hk5, rfl, rfl, HN, rfl⟩ := hrel
    have hN0 : 0 ≤ N := by rw [HN.out]; omega
    have hN1 : N ≤ 14073748835532800 := by
      rw [HN.out]
      have h1 := HTk.out k
      have h2 : k * 140737488355328 ≤ 100 * 140737488355328 := Nat.mul_le_mul_right _ (by omega)
      omega
    by_cases hlt : k < n ∧ k < 100
    · obtain ⟨hlt, h1⟩ := hlt
      have h5 : (k : Int) < 100 := by omega
      have hd : decide (k < n) = true := decide_eq_true hlt
      obtain ⟨b, o, rfl, hbl, hcl⟩ := HSl.out (by omega)
      obtain ⟨T, hT⟩ : ∃ T, T = tx (L.getD k []) := ⟨_, rfl⟩
      have hc1 : wr.cell? ⟨b, o + k, none⟩ = some (.string T) := by rw [hT]; exact hcl k hlt
      have hTs : (T.size : Int) ≤ 140737488355328 := by rw [hT, tx_size]; have := HSz.out k hlt; omega
      have HN2 : Hid (N + (T.size : Int) = (tot8 (L.take (k + 1)) : Nat)) := Lib.hid (by rw [HTs.out k hlt, HN.out, hT, tx_size]; omega)
      clear hT hcl HN h1
      go_wp2_with fail
      go_roundw
      case rel => exact ⟨k + 1, N + (T.size : Int), by omega, by omega, by go_num, rfl, HN2, trivial⟩
      case measure => simp [intOf]; omega
    · by_cases h20 : 20 < n
      · have h20i : (20 : Int) < (n : Int) := by omega
        by_cases hkn : k < n
        · have hd : decide (k < n) = true := decide_eq_true hkn
          have hk100 : decide ((k : Int) < 100) = false := decide_eq_false (fun h => hlt ⟨hkn, by omega⟩)
          clear hlt h20
          go_wp2_with fail
          refine (HAl.out _).mono ?_; rintro e w2 ⟨rfl, q2⟩
          have HQ := Lib.hid q2
          clear q2
          go_wp2_with fail
          go_ret
          exact ⟨rfl, HQ.out⟩
        · have hd : decide (k < n) = false := decide_eq_false hkn
          clear hlt h20
          go_wp2_with fail
          refine (HAl.out _).mono ?_; rintro e w2 ⟨rfl, q2⟩
          have HQ := Lib.hid q2
          clear q2
          go_wp2_with fail
          go_ret
          exact ⟨rfl, HQ.out⟩
      have hkn : k = n := by omega
      subst hkn
      have hd : decide (k < k) = false := decide_eq_false (Nat.lt_irrefl _)
      have h20i : (k : Int) ≤ 20 := by omega
      by_cases hbig : 32768 < N
      · clear hlt h20
        go_wp2_with fail
        refine (HAl.out _).mono ?_; rintro e w2 ⟨rfl, q2⟩
        have HQ := Lib.hid q2
        clear q2
        go_wp2_with fail
        go_ret
        exact ⟨rfl, HQ.out⟩
      have hbig2 : N ≤ 32768 := by omega
      have HE := Lib.hid (HEl.out N HN.out hbig2)
      have HAl2 := Lib.hid (HAll.out (by omega) HE.out)
      have HDG2 := Lib.hid (HDG.out HE.out)
      have HC0 := Lib.hid (hsC.out wr HS.out)
      have HKb : Hid (k ≤ maxLen ∧ k * 16 ≤ 140737488355328) := Lib.hid (by unfold maxLen; omega)
      obtain ⟨cs, hcs⟩ : ∃ cs, cs = strC8 L := ⟨_, rfl⟩
      have HCs : Hid ((∀ j, j < k → (cs j).length = 1) ∧ ∀ j, j < k → ∀ u ∈ cs j, u.oneCell' = true) := Lib.hid ⟨fun j _ => by rw [hcs]; rfl, fun j _ u hu => by rw [hcs] at hu; simp only [strC8, List.mem_singleton] at hu; rw [hu]; rfl⟩
      rw [← hcs] at HC0 HOwn
      clear hlt h20 hbig HEl HAll HDG HSz HTk HTs HN hcs hsC hfl HE
      go_wp2_with (at_builtin; refine wpList_append_all rfl _ _ 37 rfl wr.heap.size 9 i0 (.string ⟨#[]⟩) 1 16 Try.underlying37 HI0.out.1 HI0.out.2.1 HI0.out.2.2.1 HI0.out.2.2.2 rfl (by decide) rfl (.slice al k cl) k cs rfl HC0.out HCs.out.1 HCs.out.2 HKb.out.1 HKb.out.2 (Nat.le_refl _) ?_)
      intro v1 w1 h6 h7
      have HB1 := Lib.hid (grown_none h7)
      have HS1 := Lib.hid (HOwn.out _ _ _ h6)
      obtain ⟨a1, c1, hv1⟩ := row_slice h6
      subst hv1
      clear h6 h7 HOwn HC0 HCs HKb
      have HF := Lib.hid (HAl2.out _ _ HS1.out)
      go_wp2_with fail
      refine HF.out.mono ?_; intro e wA hpost
      obtain ⟨hbA, K, xa, xn, xc, E, rfl, hK, hKs, hK1, hK2⟩ := HPost.out _ _ _ hpost
      have HBA := Lib.hid (below_call HB1.out hbA)
      have HKs := Lib.hid hKs
      have HK1 := Lib.hid hK1
      have HK2 := Lib.hid hK2
      have hKi : (K : Int) ≤ k := by omega
      have HRA := Lib.hid (Below.refl wA.heap.size wA)
      clear hpost hbA hKs hK1 hK2 HF HS1 HB1 HAl2 HPost
      go_wp2_with fail
      obtain ⟨w0, rfl⟩ : ∃ w0, w0 = wr := ⟨_, rfl⟩
      go_loopw [8, 9] (fun t8 i wr => ∃ (m : Nat) (S : Nat → Value), (m : Int) ≤ k ∧ i = .int .i64 m ∧ Hid (m ≤ K) ∧ Hid (Below wA.heap.size wA wr) ∧ Hid (Obs8 wr wA.heap.size OS m t8 S)) (fun _ i _ => k - (intOf i).toNat)
      case atStart => exact ⟨0, fun _ => undef, by omega, rfl, Lib.hid (Nat.zero_le _), HRA, Lib.hid ⟨World.ownsRow_nil _ _ _ _, fun j hj => absurd hj (by omega)⟩⟩
      case round =>
        clear HRA
        obtain ⟨m, S, hm, rfl, HmK, HB, HO⟩ := hrel
        obtain ⟨a5, c5', hv5⟩ := row_slice HO.out.row
        subst hv5
        by_cases hlt : m < k
        · have hd2 : decide (m < k) = true := decide_eq_true hlt
          obtain ⟨b, o, rfl, hbl, hcl⟩ := HSl.out (by omega)
          have HB0 : Hid (Below w0.heap.size w0 wr) := Lib.hid (HBA.out.trans (HB.out.mono HBA.out.size))
          have hbr : b < wr.heap.size := Nat.lt_of_lt_of_le hbl HB0.out.size
          have c0 := (HB0.out.cell (p := ⟨b, o + m, none⟩) hbl).trans (hcl m hlt)
          have HG := Lib.hid (HDG2.out m hlt wr)
          have HOk := Lib.hid (HAt.out m hlt)
          obtain ⟨T, hT⟩ : ∃ T, T = tx (L.getD m []) := ⟨_, rfl⟩
          rw [← hT] at c0 HG
          obtain ⟨G, hG⟩ : ∃ G, G = getO (L.getD m []) := ⟨_, rfl⟩
          rw [← hG] at HG HOk
          have HGE := Lib.hid hG
          clear hcl hT hG
          cases G with
          | none =>
            have hmK : m = K := by
              rcases Nat.lt_or_ge m K with h | h
              · have h2 := HKs.out m h
                rw [← HGE.out] at h2
                cases h2
              · have := HmK.out; omega
            subst hmK
            obtain ⟨hx1, hx2, _⟩ := HK1.out hlt
            subst hx1 hx2
            clear HK1 HK2 HKs HGE HOk HmK hK
            go_wp2_with fail
            refine HG.out.mono ?_; rintro e w2 ⟨vv, c, rfl, hb1, hc1, hv1⟩
            subst hc1 hv1
            have HB2 := Lib.hid (below_box (below_call HB0.out hb1) (.cells #[.string ⟨#[]⟩, .slice none 0 0] 24))
            clear hb1 HG c0 hbr hbl HB HB0
            go_wp2_with fail
            refine (HAl.out _).mono ?_; rintro e w3 ⟨rfl, q3⟩
            have HQ := Lib.hid (below_call HB2.out q3)
            clear q3 HB2
            go_wp2_with fail
            go_ret
            exact ⟨rfl, HQ.out⟩
          | some x =>
            have HOx : Hid (OS.getD m Ob.nought = x) := Lib.hid HOk.out
            have HmK2 : Hid (m + 1 ≤ K) := Lib.hid (by
              rcases Nat.lt_or_ge m K with h | h
              · exact h
              · have h3 : m = K := by have := HmK.out; omega
                have h2 := (HK1.out (by omega)).2.2
                rw [← h3, ← HGE.out] at h2
                cases h2)
            obtain ⟨nm, hnm⟩ : ∃ t, t = tx x.name := ⟨_, rfl⟩
            obtain ⟨y, hy⟩ : ∃ m, m = x.syms.length := ⟨_, rfl⟩
            have HCells : Hid (∀ s, obCells x s = [.string nm, s]) := Lib.hid (fun s => by unfold obCells; rw [hnm])
            unfold GetPost ObOwn at HG
            simp only at HG
            have HKb : Hid (m + 1 ≤ maxLen ∧ (m + 1) * 40 ≤ 140737488355328) := Lib.hid (by unfold maxLen; omega)
            have HM := Lib.hid hy
            rw [← hnm, ← hy] at HG
            clear HOk hnm hy HGE HmK
            go_wp2_with fail
            refine HG.out.mono ?_; rintro e w2 ⟨vv, cc, rfl, hb1, hc1, a1, c1, R, N, hv1, hcp⟩
            subst hc1 hv1
            have HB1 := Lib.hid (below_call HB.out hb1)
            have HO1 := Lib.hid (HO.out.below hb1)
            have HC1 := Lib.hid (hcp.mono HB.out.size)
            have HB2 := Lib.hid (below_box HB1.out (.cells #[.string nm, .slice a1 y c1] 24))
            have HO2 := Lib.hid (HO1.out.below (below_new1 w2 (.cells #[.string nm, .slice a1 y c1] 24)))
            have HC2 := Lib.hid (HC1.out.below (below_new1 w2 (.cells #[.string nm, .slice a1 y c1] 24)))
            have hblk := Blk.new w2 24 [.string nm, .slice a1 y c1]
            clear hb1 hcp HG c0 hbr hbl HB HB0 HO HB1 HO1 HC1
            go_upto_region 14 with (fail)
            obtain ⟨w3, hw⟩ : ∃ t, t = w2.alloc (.cells #[.string nm, .slice a1 y c1] 24) := ⟨_, rfl⟩
            rw [← hw] at HB2 HO2 HC2 ⊢
            have y0 : w3.cell? ⟨w2.heap.size, 0, none⟩ = some (.string nm) := by rw [hw]; exact hblk.cell 0
            have y1 : w3.cell? ⟨w2.heap.size, 1, none⟩ = some (.slice a1 y c1) := by rw [hw]; exact hblk.cell 1
            clear hw hblk
            have hone : Hid (∀ u ∈ [Value.string nm, .slice a1 y c1], u.oneCell' = true) := Lib.hid (by intro u hu; simp only [List.mem_cons, List.not_mem_nil, or_false] at hu; rcases hu with rfl | rfl <;> rfl)
            have hBs : Hid (wA.heap.size ≤ (w3.alloc (.cells #[.string nm, .slice a1 y c1] 24)).heap.size) := Lib.hid (below_box HB2.out _).size
            go_wp2_with (at_builtin; refine wpList_append_own _ rfl _ _ 38 rfl wA.heap.size 24 iO _ 2 40 Try.underlying38 HI.out.1 HI.out.2.1 HI.out.2.2.1 HI.out.2.2.2 rfl (by decide) _ _ _ rfl (HO2.out.row.alloc _) ⟨w3.heap.size, 0, none⟩ 1 1 [.string nm, .slice a1 y c1] rfl rfl (new_ob _ _ _) hone.out HKb.out.1 HKb.out.2 hBs.out ?_)
            intro v6 w6 h6 h7 _
            have hOx := HO2.out.below (below_new1 w3 (.cells #[.string nm, .slice a1 y c1] 24))
            have hCx := HC2.out.below (below_new1 w3 (.cells #[.string nm, .slice a1 y c1] 24))
            have O6 := Lib.hid (hOx.more (v' := v6) (a := a1) (c := c1) (R := R) (N := N) (by rw [HOx.out, ← HM.out]; exact hCx) (by rw [HOx.out, HCells.out, ← HM.out]; exact h6) h7)
            have HB6 : Hid (Below wA.heap.size wA w6) := Lib.hid ((below_box HB2.out _).grown h7 (below_box HB2.out _).size (fun q hq => (hOx.row.lt q hq).1))
            obtain ⟨a7, c7, hv⟩ := row_slice O6.out.row
            clear h6 h7 hOx hCx HO2 HC2 HB2 hone hBs HKb y0 y1 HCells HOx HM
            subst hv
            go_wp2_with fail
            go_roundw
            case rel => exact ⟨m + 1, _, by omega, by go_num, HmK2, HB6, O6⟩
            case measure => simp [intOf]; omega
        · have hd2 : decide (m < k) = false := decide_eq_false hlt
          have h1 : k = m := by have := HmK.out; omega
          have h2 : k = K := by have := HmK.out; omega
          subst h1
          subst h2
          obtain ⟨hx1, hx2, hxo⟩ := HK2.out rfl
          have hx3 := hx1.symm
          subst hx3
          subst hx2
          have hOa := HO.out
          rw [← HLO.out] at hOa
          have hWa := hOa.all
          rw [HLO.out] at hWa
          have HXs : Hid (0 < k → ∃ b o, xa = some ⟨b, o, none⟩ ∧ b < wr.heap.size ∧ ∀ j, j < k → ∃ vs, LieC wr b (o + j * 2) (obCells (OS.getD j Ob.nought) vs) ∧ SymsAt wr vs (OS.getD j Ob.nought).syms) := Lib.hid (by
            obtain ⟨a', c', he, h⟩ := (hxo.below HB.out).get
            injection he with q1 q2 q3
            subst q1
            rw [HLO.out] at h
            exact h)
          have HYs : Hid (0 < k → ∃ b o, a5 = some ⟨b, o, none⟩ ∧ b < wr.heap.size ∧ ∀ j, j < k → ∃ vs, LieC wr b (o + j * 2) (obCells (OS.getD j Ob.nought) vs) ∧ SymsAt wr vs (OS.getD j Ob.nought).syms) := Lib.hid (by
            obtain ⟨a', c', he, h⟩ := hWa.get
            injection he with q1 q2 q3
            subst q1
            rw [HLO.out] at h
            exact h)
          have HBe : Hid (Below w0.heap.size w0 wr) := Lib.hid (HBA.out.trans (HB.out.mono HBA.out.size))
          have HBz := Lib.hid (Below.refl wr.heap.size wr)
          clear hOa hWa hxo HK1 HK2 HKs HmK HO HB hlt hK HBA hx1
          go_wp2_with fail
          obtain ⟨wE, rfl⟩ : ∃ t, t = wr := ⟨_, rfl⟩
          go_loopw [12] (fun i wr => ∃ m : Nat, (m : Int) ≤ k ∧ i = .int .i64 m ∧ Hid (Below wE.heap.size wE wr)) (fun i _ => k - (intOf i).toNat)
          case atStart => exact ⟨0, by omega, rfl, HBz⟩
          case round =>
            clear HBz
            obtain ⟨m, hm, rfl, HB⟩ := hrel
            have HB0 : Hid (Below w0.heap.size w0 wr) := Lib.hid (HBe.out.trans (HB.out.mono HBe.out.size))
            by_cases hlt : m < k
            · have hd3 : decide (m < k) = true := decide_eq_true hlt
              obtain ⟨b, o, rfl, hbl, hcl⟩ := HXs.out (by omega)
              obtain ⟨b2, o2, rfl, hbl2, hcl2⟩ := HYs.out (by omega)
              obtain ⟨x, hx⟩ : ∃ s, s = OS.getD m Ob.nought := ⟨_, rfl⟩
              obtain ⟨vs, hL, hSv⟩ := hcl m hlt
              obtain ⟨vs2, hL2, hSv2⟩ := hcl2 m hlt
              have hfx := HFit.out m hlt
              rw [← hx] at hL hL2 hSv hSv2 hfx
              obtain ⟨c0, c1⟩ := (hL.below HB.out hbl).ob
              obtain ⟨e0, e1⟩ := (hL2.below HB.out hbl2).ob
              have HSame := Lib.hid (fun W (hq : Below wE.heap.size wE W) => robsame_any x hfx _ _ W (ObAt.mk (hSv.below hq)) (ObAt.mk (hSv2.below hq)))
              obtain ⟨qa, qc, hqv, _⟩ := hSv.get
              obtain ⟨ra, rc, hrv, _⟩ := hSv2.get
              obtain ⟨nm, hnm⟩ : ∃ u, u = tx x.name := ⟨_, rfl⟩
              obtain ⟨z, hz⟩ : ∃ u, u = x.syms.length := ⟨_, rfl⟩
              rw [← hz] at hqv hrv
              rw [← hnm] at HSame c0 e0
              clear hcl hcl2 hx hL hL2 hSv hSv2 hfx hnm hz
              subst hqv hrv
              go_upto_region 22 with (fail)
              refine wp_region_quiet_tail 8 (by kernel_rfl) (by kernel_rfl) ?_
              simp only [List.take_succ_cons, List.take_zero, List.drop_succ_cons, List.drop_zero]
              repeat (go_big_quiet_step (fail))
              refine wpQuiet_nil ?_
              rintro w1 ⟨nq, rfl⟩
              go_wp2_with fail
              refine (HSame.out _ (below_drew HB.out _)).mono ?_; rintro e w2 ⟨rfl, q2⟩
              have HB2 := Lib.hid (below_call (below_drew HB.out _) q2)
              clear q2 c0 c1 e0 e1 HSame HB HB0
              go_wp2_with fail
              go_roundw
              case rel => exact ⟨m + 1, by omega, by go_num, HB2⟩
              case measure => simp [intOf]; omega
            · have hd3 : decide (m < k) = false := decide_eq_false hlt
              clear hlt
              go_wp2_with fail
              refine (HAl.out _).mono ?_; rintro e w3 ⟨rfl, q3⟩
              have HQ := Lib.hid (below_call HB0.out q3)
              clear q3
              go_wp2_with fail
              go_ret
              exact ⟨rfl, HQ.out⟩
end Go.Proofs.Ytbpdoiikleaidaa
