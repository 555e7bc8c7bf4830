/- The document's Names. -/
import Derived.Test.YtiadggeheiadiaaRP
import Derived.Test.YtiadggeheiadiaaRC
set_option linter.unusedVariables false
set_option linter.unusedSimpArgs false
namespace Go.Proofs.Ytiadggeheiadiaa
open Go Go.RowKit Oj

theorem put_length (s : List UInt8) : ∀ l : List (List UInt8), (put l s).length ≤ l.length + 1
  | [] => by simp [put]
  | y :: l => by
    have := put_length s l
    unfold put
    split
    · simp only [List.length_cons]; omega
    · split <;> simp
theorem foldl_length : ∀ (xs l : List (List UInt8)), (xs.foldl put l).length ≤ l.length + xs.length
  | [], l => by simp
  | x :: xs, l => by
    have h1 := foldl_length xs (put l x)
    have h2 := put_length x l
    rw [List.foldl_cons, List.length_cons]
    omega
theorem putAll_le (xs : List (List UInt8)) : (putAll xs).length ≤ xs.length := by
  have := foldl_length xs []
  unfold putAll
  simpa using this
theorem putAll_snoc (xs : List (List UInt8)) (s : List UInt8) : putAll (xs ++ [s]) = put (putAll xs) s := by
  unfold putAll
  rw [List.foldl_append]
  rfl
/-- A list that rises, of the call's own: nil, or not empty. -/
def PutB (B : Nat) (L : List (List UInt8)) (v : Value) (w : World) : Prop := (v = .slice none 0 0 ∧ L = []) ∨ (L ≠ [] ∧ OwnL B L v w)
theorem PutB.below {B : Nat} {w w' : World} {v : Value} {L : List (List UInt8)} (h : PutB B L v w) (hb : Below w.heap.size w w') : PutB B L v w' := by
  rcases h with h | ⟨h1, h2⟩
  · exact .inl h
  · exact .inr ⟨h1, h2.below hb⟩
theorem PutB.own {B : Nat} {w : World} {v : Value} {L : List (List UInt8)} (h : PutB B L v w) : OwnL B L v w := by
  rcases h with ⟨rfl, rfl⟩ | ⟨_, h⟩
  · exact ownL_nil _ _
  · exact h
theorem rput_any (B : Nat) (v : Value) (L : List (List UInt8)) (hL2 : L.length ≤ 1048576) (s : ByteArray) (w : World) (hB : B ≤ w.heap.size) (hP : PutB B L v w) : Calls Try.prog 33 #[v, .string s] w fun e w' => ∃ v', e = .returned v' ∧ PutB B (put L (by' s)) v' w' ∧ Below w.heap.size w w' := by
  rcases hP with ⟨rfl, rfl⟩ | ⟨h1, h2⟩
  · refine (rput_nil s w).mono ?_
    rintro e w' ⟨v', rfl, h3, h4⟩
    exact ⟨v', rfl, .inr ⟨put_ne _ _, row_base h3 hB⟩, h4⟩
  · refine (rput_some B v L h1 hL2 s w hB h2).mono ?_
    rintro e w' ⟨v', rfl, h3, h4⟩
    exact ⟨v', rfl, .inr ⟨put_ne _ _, h3⟩, h4⟩

set_option maxHeartbeats 16000000 in
set_option maxRecDepth 100000 in
theorem rnames_any (v : Value) (l : List Ob) (hf : obsFit l) (hl : l.length ≤ 20) (w : World) (hA : ObsAt w v l) : Calls Try.prog 20 #[v] w fun e w' => ∃ v', e = .returned v' ∧ OwnL w.heap.size (putAll (namesL l)) v' w' ∧ Below w.heap.size w w' := by
  obtain ⟨a, c, rfl, h2⟩ := hA.get
  obtain ⟨n, hn⟩ : ∃ n, n = l.length := ⟨_, rfl⟩
  have HF := Lib.hid (show ∀ j, j < n → obFits (l.getD j Ob.nought) from by rw [hn]; exact hf.2)
  rw [← hn] at h2 ⊢
  have hni : (n : Int) ≤ 20 := by omega
  have H2 := Lib.hid h2
  have HLen := Lib.hid hn
  clear hn h2 hf hl hA
  go_enter Try.func20, Try.ntmps20
  go_wp2_with fail
  go_loopw [3, 4] (fun t3 i wr => ∃ k : Nat, (k : Int) ≤ n ∧ i = .int .i64 k ∧ Hid (PutB w.heap.size (putAll (namesL (l.take k))) t3 wr) ∧ Hid (Below w.heap.size w wr)) (fun _ i _ => n - (intOf i).toNat)
  case atStart => exact ⟨0, by omega, rfl, Lib.hid (.inl ⟨rfl, rfl⟩), Lib.hid (Below.refl _ _)⟩
  case round =>
    obtain ⟨k, hk, rfl, HO, HB⟩ := hrel
    by_cases hlt : k < n
    · have hd : decide (k < n) = true := decide_eq_true hlt
      obtain ⟨b, o, rfl, hbl, hcl⟩ := H2.out (by omega)
      obtain ⟨x, hx⟩ : ∃ x, x = l.getD k Ob.nought := ⟨_, rfl⟩
      obtain ⟨vs, hL, hS⟩ := hcl k hlt
      have hfx := HF.out k hlt
      have hsn := namesL_snoc l k (by rw [← HLen.out]; exact hlt)
      rw [← hx] at hL hS hfx hsn
      have HL := Lib.hid hL
      have HI := Lib.hid (fun W (hq : Below w.heap.size w W) => rmay_any _ x hfx W ((ObAt.mk hS).below hq))
      obtain ⟨p, hp⟩ : ∃ p, p = obOk x := ⟨_, rfl⟩
      obtain ⟨M, hM⟩ : ∃ M, M = tx x.name := ⟨_, rfl⟩
      have HSN : Hid (namesL (l.take (k + 1)) = namesL (l.take k) ++ if p = true then x.syms.map (·.name) else []) := Lib.hid (by rw [hsn, hp]; rfl)
      have hS88 := hfx.2.1
      have HFS := Lib.hid hfx.2.2
      obtain ⟨a2, cc, rfl, hsy⟩ := hS.get
      obtain ⟨m, hm⟩ : ∃ m, m = x.syms.length := ⟨_, rfl⟩
      rw [← hp, ← hM, ← hm] at HI
      rw [← hm] at hsy hS88
      have HLx : Hid (∀ W, Below w.heap.size w W → W.cell? ⟨b, o + k * 2, none⟩ = some (.string M) ∧ W.cell? ⟨b, o + k * 2 + 1, none⟩ = some (.slice a2 m cc)) := Lib.hid (fun W hW => by
        have := (HL.out.below hW hbl).ob
        rw [← hM, ← hm] at this
        exact this)
      have HSY := Lib.hid hsy
      have HM := Lib.hid hm
      have hmi : (m : Int) ≤ 1599289640401 := by omega
      have H64 : Hid (p = true → m ≤ 64) := Lib.hid (by
        rw [hp, hm]
        intro h
        unfold obOk at h
        simp only [Bool.and_eq_true, decide_eq_true_eq] at h
        exact h.1.2)
      have HKl : Hid ((namesL (l.take k)).length ≤ 1280) := Lib.hid (by
        have h1 := namesL_length (l.take k)
        have h3 := List.length_take_le k l
        have h4 : (n : Int) ≤ 20 := hni
        omega)
      clear hcl hL hS hx hfx hsn hp hM hsy hm hS88 HL
      cases p
      · have HSN2 : Hid (namesL (l.take (k + 1)) = namesL (l.take k)) := Lib.hid (by rw [HSN.out, if_neg (by decide), List.append_nil])
        go_wp2_with fail
        go_loopw [3, 5] (fun t3 i wr => i = .int .i64 0 ∧ Hid (PutB w.heap.size (putAll (namesL (l.take k))) t3 wr) ∧ Hid (Below w.heap.size w wr)) (fun _ _ _ => 0)
        case atStart => exact ⟨rfl, HO, HB⟩
        case round =>
          clear HO HB
          obtain ⟨rfl, HO, HB⟩ := hrel
          obtain ⟨c0, c1⟩ := HLx.out wr HB.out
          by_cases h0 : 0 < m
          · have h0' : (0 : Int) < (m : Int) := by omega
            clear h0
            go_wp2_with fail
            refine (HI.out _ HB.out).mono ?_; rintro e w2 ⟨rfl, q2⟩
            have HB2 := Lib.hid (below_call HB.out q2)
            have HO2 : Hid (PutB w.heap.size (putAll (namesL (l.take (k + 1)))) _ w2) := Lib.hid (by rw [HSN2.out]; exact HO.out.below q2)
            clear q2 c0 c1
            go_wp2_with fail
            go_roundw
            case rel => exact ⟨k + 1, by omega, by go_num, HO2, HB2⟩
            case measure => simp [intOf]; omega
          · have hm0 : (m : Int) ≤ 0 := by omega
            have HO2 : Hid (PutB w.heap.size (putAll (namesL (l.take (k + 1)))) _ wr) := Lib.hid (by rw [HSN2.out]; exact HO.out)
            clear h0
            go_wp2_with fail
            clear c0 c1
            go_roundw
            case rel => exact ⟨k + 1, by omega, by go_num, HO2, HB⟩
            case measure => simp [intOf]; omega
      · have HSN2 : Hid (namesL (l.take (k + 1)) = namesL (l.take k) ++ x.syms.map (·.name)) := Lib.hid (by rw [HSN.out, if_pos rfl])
        have h64 := H64.out rfl
        have hm64 : (m : Int) ≤ 64 := by omega
        clear H64 h64 hmi
        go_wp2_with fail
        go_loopw [3, 5] (fun t3 i wr => ∃ j : Nat, (j : Int) ≤ m ∧ i = .int .i64 j ∧ Hid (PutB w.heap.size (putAll (namesL (l.take k) ++ (x.syms.map (·.name)).take j)) t3 wr) ∧ Hid (Below w.heap.size w wr)) (fun _ i _ => m - (intOf i).toNat)
        case atStart => exact ⟨0, by omega, rfl, Lib.hid (by rw [List.take_zero, List.append_nil]; exact HO.out), HB⟩
        case round =>
          clear HO HB
          obtain ⟨j, hj, rfl, HO, HB⟩ := hrel
          obtain ⟨c0, c1⟩ := HLx.out wr HB.out
          by_cases hjm : j < m
          · have hd2 : decide (j < m) = true := decide_eq_true hjm
            obtain ⟨b2, o2, rfl, hbl2, hcl2⟩ := HSY.out (by omega)
            obtain ⟨vr, vn, hL, _, _⟩ := hcl2 j hjm
            obtain ⟨s, hs⟩ : ∃ s, s = x.syms.getD j Sy.nought := ⟨_, rfl⟩
            rw [← hs] at hL
            obtain ⟨u0, g0⟩ : ∃ u, u = tx s.name := ⟨_, rfl⟩
            have HL2 : Hid (∀ W, Below w.heap.size w W → W.cell? ⟨b2, o2 + j * 7, none⟩ = some (.string u0)) := Lib.hid (fun W hW => by
              have := (hL.below hW hbl2).sy.1
              rw [← g0] at this
              exact this)
            have HT : Hid (putAll (namesL (l.take k) ++ (x.syms.map (·.name)).take (j + 1)) = put (putAll (namesL (l.take k) ++ (x.syms.map (·.name)).take j)) (by' u0)) := Lib.hid (by
              rw [List.take_succ_eq_append_getElem (by rw [List.length_map, ← HM.out]; exact hjm), List.getElem_map, ← List.append_assoc, putAll_snoc, g0, by_tx, hs]
              simp [List.getD, show j < x.syms.length by rw [← HM.out]; exact hjm])
            have HK : Hid ((putAll (namesL (l.take k) ++ (x.syms.map (·.name)).take j)).length ≤ 1048576) := Lib.hid (by
              have h1 := HKl.out
              have h3 : ((x.syms.map (·.name)).take j).length ≤ j := List.length_take_le _ _
              have h4 := putAll_le (namesL (l.take k) ++ (x.syms.map (·.name)).take j)
              rw [List.length_append] at h4
              omega)
            clear hcl2 hL hs g0
            go_wp2_with fail
            refine (HI.out _ HB.out).mono ?_; rintro e w2 ⟨rfl, q2⟩
            have HB2 := Lib.hid (below_call HB.out q2)
            have HO2 := Lib.hid (HO.out.below q2)
            clear q2 c0 c1 HO HB
            obtain ⟨c0, c1⟩ := HLx.out w2 HB2.out
            have e0 := HL2.out w2 HB2.out
            go_wp2_with fail
            refine (rput_any w.heap.size _ _ HK.out u0 w2 HB2.out.size HO2.out).mono ?_; rintro e w3 ⟨v3, rfl, h5, q3⟩
            have HB3 := Lib.hid (below_call HB2.out q3)
            have HO3 : Hid (PutB w.heap.size (putAll (namesL (l.take k) ++ (x.syms.map (·.name)).take (j + 1))) v3 w3) := Lib.hid (by rw [HT.out]; exact h5)
            clear h5 q3 c0 c1 e0 HB2 HO2 HT HK HL2
            go_wp2_with fail
            go_roundw
            case rel => exact ⟨j + 1, by omega, by go_num, HO3, HB3⟩
            case measure => simp [intOf]; omega
          · have hd2 : decide (j < m) = false := decide_eq_false hjm
            have HO5 : Hid (PutB w.heap.size (putAll (namesL (l.take (k + 1)))) _ wr) := Lib.hid (by
              rw [HSN2.out]
              have := HO.out
              rw [List.take_of_length_le (l := x.syms.map (·.name)) (by rw [List.length_map, ← HM.out]; omega)] at this
              exact this)
            clear hjm HO
            go_wp2_with fail
            clear c0 c1
            go_roundw
            case rel => exact ⟨k + 1, by omega, by go_num, HO5, HB⟩
            case measure => simp [intOf]; omega
    · have hd : decide (k < n) = false := decide_eq_false hlt
      have hall : l.take k = l := List.take_of_length_le (by rw [← HLen.out]; omega)
      rw [hall] at HO
      clear hlt hall
      go_wp2_with fail
      go_ret
      exact ⟨_, rfl, HO.out.own, HB.out⟩
end Go.Proofs.Ytiadggeheiadiaa
