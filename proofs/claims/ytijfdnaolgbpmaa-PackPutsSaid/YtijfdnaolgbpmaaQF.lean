/- The program's package pack: a number, a text and a list of texts as bytes. -/
import Derived.Test.YtijfdnaolgbpmaaPD
import Derived.Test.YtijfdnaolgbpmaaWE
import Derived.Test.YtijfdnaolgbpmaaBW
set_option linter.unusedVariables false
namespace Go.Proofs.Ytijfdnaolgbpmaa
open Go Go.RowKit

theorem liesP : LiesB 57 := ⟨by decide, by kernel_rfl⟩
theorem ib_kept {T e : TypeId} {B b : Nat} {bs : List Value} {w w' : World} (h : Lib.IsBuilder T e B b bs w) (hb : Below w.heap.size w w') : Lib.IsBuilder T e B b bs w' := by
  have key : ∀ p, Lib.BuilderAt T e B b p bs w → Lib.BuilderAt T e B b p bs w' := by
    rintro p ⟨hB, v, hbk, hown, hne⟩
    refine ⟨hB, v, (hb.block b (lt_of_heap hbk)).trans hbk, ⟨hown.1, ?_⟩, hne⟩
    rcases hown.2 with h0 | ⟨g, cap, cur, hv, hBg, hg, r⟩
    · exact .inl h0
    · exact .inr ⟨g, cap, cur, hv, hBg, (hb.block g (lt_of_heap hg)).trans hg, r⟩
  rcases h with h | h
  · exact Or.inl (key _ h)
  · exact Or.inr (key _ h)

set_option maxRecDepth 100000 in
theorem pnum_any (x n : Int) (w : World) (h0 : 0 ≤ x) (h1 : x < 4294967296) : Calls Try.prog 9 #[.int .u32 x, .int .i64 n] w fun e w' => e = .returned (.tuple #[.string (numS x n), .int .i64 (numE x n)]) ∧ Below w.heap.size w w' := by
  have HP : Hid (Calls Try.prog 29 #[.int .u32 x, .int .i64 n] w fun e w' => e = .returned (.tuple #[.string (numS x n), .int .i64 (numE x n)]) ∧ Below w.heap.size w w') := Lib.hid (put_any x n h0 h1 w)
  clear h0 h1
  go_enter Try.func9, Try.ntmps9
  go_wp2_with fail
  refine HP.out.mono ?_; rintro e w1 ⟨rfl, q⟩
  have HQ := Lib.hid q
  clear q HP
  go_wp2
  go_ret2
  exact ⟨rfl, HQ.out⟩
set_option maxRecDepth 100000 in
theorem count_any (k : Nat) (hk : k < 65536) (w : World) : Calls Try.prog 30 #[.int .i64 k] w fun e w' => e = .returned (.string (tx (Wd.le k 2))) ∧ Below w.heap.size w w' := by
  have hp := pnum_any (k : Int) 2 w (by omega) (by omega)
  have hn1 : numE (k : Int) 2 = 0 := by unfold numE Wd.putE; rw [if_neg (by decide), if_neg]; simp; omega
  have hn2 : numS (k : Int) 2 = tx (Wd.le k 2) := by
    have : Wd.putE ((k : Int)).toNat 2 = 0 := hn1
    unfold numS Wd.putL; rw [this, if_pos rfl]; simp
  rw [hn1, hn2] at hp
  have HP := Lib.hid hp
  have hki : (k : Int) < 65536 := by omega
  clear hn1 hn2 hp hk
  go_enter Try.func30, Try.ntmps30
  go_wp2_with fail
  refine HP.out.mono ?_; rintro e w1 ⟨rfl, q⟩
  have HQ := Lib.hid q
  clear q HP
  go_wp2
  go_ret
  exact ⟨rfl, HQ.out⟩

set_option maxHeartbeats 1000000 in
set_option maxRecDepth 100000 in
theorem ptext_any (s : ByteArray) (hs : s.size ≤ 140737488355328) (w : World) :
    Calls Try.prog 11 #[.string s] w fun e w' => e = .returned (.tuple #[.string (txtS s), .int .i64 (Pk.txtE (by' s))]) ∧ Below w.heap.size w w' := by
  by_cases h : 65535 < s.size
  · have e1 : Pk.txtE (by' s) = 5 := by unfold Pk.txtE; rw [by_length, if_pos h]
    have e2 : txtS s = tx [] := by unfold txtS; rw [e1, if_neg (by decide)]
    rw [e1, e2]
    have h' : (65535 : Int) < (s.size : Int) := by omega
    clear e1 e2 h hs
    go_enter Try.func11, Try.ntmps11
    go_wp2
    go_ret2
    exact ⟨rfl, Below.refl _ _⟩
  · have e1 : Pk.txtE (by' s) = 0 := by unfold Pk.txtE; rw [by_length, if_neg h]
    have e2 : txtS s = tx (Wd.le s.size 2) ++ s := by
      unfold txtS
      rw [e1, if_pos rfl]
      have : s = tx (by' s) := (tx_by s).symm
      conv => rhs; rw [this]
      rw [tx_append, tx_size]
      rfl
    rw [e1, e2]
    have HC := Lib.hid (fun W => count_any s.size (by omega) W)
    have h' : (s.size : Int) ≤ 65535 := by omega
    have hz : (tx (Wd.le s.size 2)).size = 2 := by rw [tx_size, Wd.le_length]
    obtain ⟨T, hT⟩ : ∃ T, T = tx (Wd.le s.size 2) := ⟨_, rfl⟩
    rw [← hT] at HC hz ⊢
    have hzi : (T.size : Int) ≤ 2 := by omega
    clear e1 e2 h hT hz hs
    go_enter Try.func11, Try.ntmps11
    go_wp2_with fail
    refine (HC.out _).mono ?_; rintro e w1 ⟨rfl, q⟩
    have HQ := Lib.hid q
    clear q HC
    go_wp2
    go_ret2
    exact ⟨rfl, HQ.out⟩

set_option maxHeartbeats 2000000 in
set_option maxRecDepth 100000 in
theorem ptexts_any (v : Value) (L : List (List UInt8)) (w : World) (hs : SlAt w v L) (hc : (Pk.cat L).length ≤ 1099511627776) (hL : L.length ≤ 1048576) :
    Calls Try.prog 13 #[v] w fun e w' => e = .returned (.tuple #[.string (lstS L), .int .i64 (Pk.lstE L)]) ∧ Below w.heap.size w w' := by
  obtain ⟨a, c, rfl, h2⟩ := hs
  by_cases hbig : 4096 < L.length
  · have e1 : Pk.lstE L = 5 := by unfold Pk.lstE; rw [if_pos hbig]
    have e2 : lstS L = tx [] := by unfold lstS; rw [e1, if_neg (by decide)]
    rw [e1, e2]
    have h' : (4096 : Int) < (L.length : Int) := by omega
    obtain ⟨m, hm⟩ : ∃ m, m = L.length := ⟨_, rfl⟩
    rw [← hm] at h' ⊢
    clear e1 e2 hbig h2 hm hc hL
    go_enter Try.func13, Try.ntmps13
    go_wp2
    go_ret2
    exact ⟨rfl, Below.refl _ _⟩
  · obtain ⟨m, hm⟩ : ∃ m, m = L.length := ⟨_, rfl⟩
    have HM := Lib.hid hm
    have hm' : (m : Int) ≤ 4096 := by omega
    have HNu := Lib.hid (fun W => count_any m (by omega) W)
    have hz : (tx (Wd.le m 2)).size = 2 := by rw [tx_size, Wd.le_length]
    have HC := Lib.hid hc
    have H2 := Lib.hid h2
    have HI := Lib.hid (show Lib.IsBuilder 57 5 w.heap.size w.heap.size (Lib.byteCells []) (w.alloc (.cells #[.pointer none, .slice none 0 0] 57)) from Lib.fresh_isBuilder 57 5 w)
    obtain ⟨wa, hwa⟩ : ∃ wa, wa = w.alloc (.cells #[.pointer none, .slice none 0 0] 57) := ⟨_, rfl⟩
    have hba : Below w.heap.size w wa := by rw [hwa]; exact (Below.refl _ _).alloc (Nat.le_refl _) _
    rw [← hwa] at HI
    have HA := Lib.hid hba
    have HW := Lib.hid hwa
    obtain ⟨T, hT⟩ : ∃ T, T = tx (Wd.le m 2) := ⟨_, rfl⟩
    rw [← hT] at HNu hz
    have HT0 := Lib.hid (show T.data.toList = Wd.le m 2 by rw [hT]; simp [tx])
    have HZ := Lib.hid hz
    rw [← hm]
    clear hz hT hwa hba hc hL h2 hbig hm
    go_enter Try.func13, Try.ntmps13
    go_wp2_with fail
    rw [← HW.out]
    refine (HNu.out _).mono ?_; rintro r w1 ⟨rfl, q1⟩
    have HB1 := Lib.hid (HA.out.trans (q1.mono HA.out.size))
    have HI1 := Lib.hid (ib_kept HI.out q1)
    clear q1 HNu HI HA HW
    go_wp2_with fail
    refine (writes_any liesP w.heap.size w.heap.size _ T w1 HI1.out (by rw [HZ.out, Lib.byteCells_length]; simp) HB1.out.size).mono ?_
    rintro e w2 ⟨rfl, q1, q2⟩
    have HB2 := Lib.hid (HB1.out.trans q2)
    have HI2 : Hid (Lib.IsBuilder 57 5 w.heap.size w.heap.size (Lib.byteCells (Wd.le m 2 ++ Pk.cat (L.take 0))) w2) := Lib.hid (Or.inr (by
      have := q1
      rw [HT0.out] at this
      simpa [Pk.cat, Lib.byteCells] using this))
    clear q1 q2 HB1 HI1
    go_wp2_with fail
    go_loopw [18] (fun i wr => ∃ k : Nat, (k : Int) ≤ m ∧ i = .int .i64 k ∧ Hid (Pk.okAll (L.take k) = true) ∧ Hid (Lib.IsBuilder 57 5 w.heap.size w.heap.size (Lib.byteCells (Wd.le m 2 ++ Pk.cat (L.take k))) wr) ∧ Hid (Below w.heap.size w wr)) (fun i _ => m - (intOf i).toNat)
    case atStart => exact ⟨0, by omega, rfl, Lib.hid rfl, HI2, HB2⟩
    case round =>
      obtain ⟨k, hk, rfl, HO, HI, HB⟩ := hrel
      clear HB2 HI2
      by_cases hlt : k < m
      · have hkl : k < L.length := by have := HM.out; omega
        obtain ⟨b, o, rfl, hbl, hcl⟩ := H2.out (by intro h; rw [h] at hkl; simp at hkl)
        have hml := mem_len hkl
        obtain ⟨S, hS⟩ : ∃ S, S = L.getD k [] := ⟨_, rfl⟩
        obtain ⟨T1, hT⟩ : ∃ T1, T1 = tx S := ⟨_, rfl⟩
        have hTs : T1.size = S.length := by rw [hT, tx_size]
        have hcell : wr.cell? ⟨b, o + k, none⟩ = some (.string T1) := by
          rw [hT, hS]; exact (HB.out.cell (p := ⟨b, o + k, none⟩) hbl).trans (hcl k hkl)
        have hm64 : (m : Int) ≤ 4096 := hm'
        have HT := Lib.hid (fun W => ptext_any T1 (by rw [hTs, hS]; have := HC.out; omega) W)
        have hbyT : by' T1 = S := by rw [hT, by_tx]
        rw [hbyT] at HT
        have hcl2 := cat_le L k
        by_cases h5 : 65535 < S.length
        · have e1 : Pk.txtE S = 5 := by unfold Pk.txtE; rw [if_pos h5]
          have e2 : txtS T1 = tx [] := by unfold txtS; rw [hbyT, e1, if_neg (by decide)]
          rw [e1, e2] at HT
          have HR : Hid (Pk.lstE L = 5 ∧ lstS L = tx []) := Lib.hid (by
            have h6 : Pk.lstE L = 5 := by
              unfold Pk.lstE
              rw [if_neg (by have := HM.out; omega), okAll_not L k hkl (by rw [← hS]; exact h5), if_neg (by decide)]
            exact ⟨h6, by unfold lstS; rw [h6, if_neg (by decide)]⟩)
          clear hS hT hTs hbyT e1 e2 h5 hml hcl hkl hcl2
          go_wp2_with fail
          refine (HT.out _).mono ?_; rintro r w3 ⟨rfl, q2⟩
          have HB3 := Lib.hid (HB.out.trans (q2.mono HB.out.size))
          clear q2 HB
          go_wp2
          go_ret2
          exact ⟨by rw [HR.out.1, HR.out.2]; rfl, HB3.out⟩
        · have e1 : Pk.txtE S = 0 := by unfold Pk.txtE; rw [if_neg h5]
          have e2 : txtS T1 = tx (Pk.txt S) := by unfold txtS; rw [hbyT, e1, if_pos rfl]
          rw [e1, e2] at HT
          obtain ⟨U, hU⟩ : ∃ U, U = tx (Pk.txt S) := ⟨_, rfl⟩
          rw [← hU] at HT
          have HUs := Lib.hid (show U.size ≤ 65537 by rw [hU, tx_size, txt_length]; omega)
          have HO2 : Hid (Pk.okAll (L.take (k + 1)) = true) := Lib.hid (by rw [okAll_snoc L k hkl, HO.out, ← hS]; simp; omega)
          have HN : Hid (Lib.byteCells (Wd.le m 2 ++ Pk.cat (L.take k)) ++ Lib.byteCells U.data.toList = Lib.byteCells (Wd.le m 2 ++ Pk.cat (L.take (k + 1)))) := Lib.hid (by
            rw [← Lib.byteCells_append, cat_snoc L k hkl, ← hS, hU, List.append_assoc]
            simp [tx])
          have HLn := Lib.hid (show (Lib.byteCells (Wd.le m 2 ++ Pk.cat (L.take k))).length ≤ 1099511627778 by rw [Lib.byteCells_length, List.length_append, Wd.le_length]; have := HC.out; omega)
          clear hS hT hTs hbyT e1 e2 h5 hml hcl hkl hcl2 hU HO
          go_wp2_with fail
          refine (HT.out _).mono ?_; rintro r w3 ⟨rfl, q2⟩
          have HB3 := Lib.hid (HB.out.trans (q2.mono HB.out.size))
          have HI3 := Lib.hid (ib_kept HI.out q2)
          clear q2 HB HT HI
          go_wp2_with fail
          refine (writes_any liesP w.heap.size w.heap.size _ U w3 HI3.out (by have := HLn.out; have := HUs.out; omega) HB3.out.size).mono ?_
          rintro e w4 ⟨rfl, q1, q2⟩
          have HB4 := Lib.hid (HB3.out.trans q2)
          have HI4 : Hid (Lib.IsBuilder 57 5 w.heap.size w.heap.size (Lib.byteCells (Wd.le m 2 ++ Pk.cat (L.take (k + 1)))) w4) := Lib.hid (by rw [← HN.out]; exact Or.inr q1)
          clear q1 q2 HB3 HI3
          go_wp2
          go_roundw
          case rel => exact ⟨k + 1, by omega, by go_num, HO2, HI4, HB4⟩
          case measure => simp [intOf]; omega
      · have HR : Hid (Pk.lstE L = 0 ∧ lstS L = ⟨(Wd.le m 2 ++ Pk.cat (L.take k)).toArray⟩) := Lib.hid (by
          have hkm : L.length ≤ k := by have := HM.out; omega
          have ho := HO.out
          rw [List.take_of_length_le hkm] at ho ⊢
          have h6 : Pk.lstE L = 0 := by unfold Pk.lstE; rw [if_neg (by have := HM.out; omega), if_pos ho]
          exact ⟨h6, by unfold lstS; rw [h6, if_pos rfl, HM.out]; rfl⟩)
        have hd : decide (k < m) = false := decide_eq_false hlt
        clear hlt
        go_wp2_with fail
        refine (string_any w.heap.size w.heap.size _ wr HI.out HB.out.size).mono ?_
        rintro e w3 ⟨rfl, q⟩
        have HB3 := Lib.hid (HB.out.trans q)
        clear q HB
        go_wp2
        go_ret2
        exact ⟨by rw [HR.out.1, HR.out.2]; rfl, HB3.out⟩
end Go.Proofs.Ytijfdnaolgbpmaa
