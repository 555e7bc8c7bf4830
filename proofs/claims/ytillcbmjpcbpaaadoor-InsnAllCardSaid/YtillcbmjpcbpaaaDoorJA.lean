/- All: the bytes of many instructions. -/
import Derived.Test.YtillcbmjpcbpaaaDoorJM
import Derived.LoopTactic
set_option linter.unusedVariables false
namespace Go.Proofs.YtillcbmjpcbpaaaDoor
open Go.RowKit

theorem liesS : LiesB 54 := ⟨by decide, by kernel_rfl⟩

theorem allE_ok (l : List Ins) (h : allOk l = true) : allE l = 0 := by unfold allE; rw [if_pos h]
theorem allE_no (l : List Ins) (h : allOk l = false) : allE l = 2 := by unfold allE; rw [h]; rfl
theorem allS_ok (l : List Ins) (h : allOk l = true) : allS l = ⟨(cat l).toArray⟩ := by unfold allS; rw [if_pos h]
theorem allS_no (l : List Ins) (h : allOk l = false) : allS l = ⟨#[]⟩ := by unfold allS; rw [h]; rfl
theorem ret_se {s s' : ByteArray} {e e' : Int} (h : s = s') (h2 : e = e') : Ending.returned (.tuple #[.string s, .int .i64 e]) = .returned (.tuple #[.string s', .int .i64 e']) := by rw [h, h2]

set_option maxHeartbeats 2000000 in
set_option maxRecDepth 100000 in
theorem all_some (l : List Ins) (g o c : Nat) (w : World) (hl : l.length ≤ 300) (hk : Tabled w) (hg : g < w.heap.size) (hL : Lie w g o l) (hF : ∀ k, k < l.length → (l.getD k Ins.nought).fits) :
    Calls Tryd.prog 14 #[.slice (some ⟨g, o, none⟩) l.length c] w fun e w' => e = .returned (.tuple #[.string (allS l), .int .i64 (allE l)]) ∧ Below w.heap.size w w' := by
  have HI := Lib.hid (Lib.fresh_isBuilder 54 5 w)
  have HK := Lib.hid hk
  have HL := Lib.hid hL
  have HF := Lib.hid hF
  clear hk hL hF
  go_enter Tryd.func14, Tryd.ntmps14
  go_wp2
  go_loopw [11] (fun i wr => ∃ k : Nat, k ≤ l.length ∧ i = .int .i64 k ∧ Hid (allOk (l.take k) = true) ∧ Hid (Lib.IsBuilder 54 5 w.heap.size w.heap.size (Lib.byteCells (cat (l.take k))) wr) ∧ Below w.heap.size w wr) (fun i _ => l.length - (intOf i).toNat)
  case atStart => exact ⟨0, Nat.zero_le _, rfl, Lib.hid rfl, HI, (Below.refl _ _).alloc (Nat.le_refl _) _⟩
  case round =>
    obtain ⟨k, hk, rfl, hO, hB, hb⟩ := hrel
    by_cases hlt : k < l.length
    · obtain ⟨⟨op, d, a, b, im⟩, hx⟩ : ∃ x, l.getD k Ins.nought = x := ⟨_, rfl⟩
      have HX := Lib.hid hx
      have hf := HF.out k hlt
      have hot := ok_take l k hlt
      have hct := cat_take l k hlt
      rw [hx] at hf hot hct
      obtain ⟨⟨h0, h1⟩, ⟨d0, d1⟩, ⟨a0, a1⟩, ⟨b0, b1⟩, ⟨i0, i1⟩⟩ := hf
      obtain ⟨c0, c1, c2, c3, c4⟩ := (HL.out.below hb hg).five k hlt hx
      clear hx
      have hb2 := hb.alloc hb.size (.cells #[.int .u8 op, .int .u8 d, .int .u8 a, .int .u8 b, .int .u32 im] 24)
      have HE := Lib.hid (iencode_any op d a b im h0 h1 d0 d1 a0 a1 b0 b1 i0 i1 _ (HK.out.below hb2))
      have HB := Lib.hid (ib_alloc hB.out (.cells #[.int .u8 op, .int .u8 d, .int .u8 a, .int .u8 b, .int .u32 im] 24))
      by_cases hok : Ix.insnOk op d a b im = true
      · have HT : Hid (allOk (l.take (k + 1)) = true) := Lib.hid (by rw [hot, hO.out]; exact hok)
        have HC : Hid (Lib.byteCells (cat (l.take k)) ++ Lib.byteCells (encS op d a b im).data.toList = Lib.byteCells (cat (l.take (k + 1)))) := by
          refine Lib.hid ?_
          rw [hct, Lib.byteCells_append]
          congr 2
          show bt (encS op d a b im) = _
          unfold bt encS
          rw [Ix.enc_of_ok hok]
          rfl
        have hsz : (encS op d a b im).size = 8 := by
          show (bt (encS op d a b im)).length = 8
          unfold bt encS
          rw [Ix.enc_of_ok hok, Ix.bytes_length]
        have hcl : (Lib.byteCells (cat (l.take k))).length ≤ 2400 := by
          rw [Lib.byteCells_length, cat_length, List.length_take]; omega
        rw [errI_yes _ _ _ _ _ hok] at HE
        clear hot hct hO hok hB hb
        generalize encS op d a b im = S at *
        have HSZ := Lib.hid hsz
        clear hsz
        go_wp2_with fail
        refine HE.out.mono ?_
        rintro e w1 ⟨rfl, q⟩
        have hb3 := hb2.trans (q.mono hb2.size)
        have HB1 := Lib.hid (ib_below HB.out q)
        clear HB HE q hb2 c0 c1 c2 c3 c4
        go_wp2_with fail
        refine (writes_any liesS w.heap.size w.heap.size _ S w1 HB1.out (by rw [HSZ.out]; omega) hb3.size).mono ?_
        rintro e w2 ⟨rfl, q1, q2⟩
        have q3 : Hid (Lib.IsBuilder 54 5 w.heap.size w.heap.size (Lib.byteCells (cat (l.take (k + 1)))) w2) := by
          rw [← HC.out]; exact Lib.hid (Or.inr q1)
        have hb' := hb3.trans q2
        clear q1 q2 hb3 HB1
        go_wp2
        go_roundw
        case rel => exact ⟨k + 1, by omega, by go_num, HT, q3, hb'⟩
        case measure => simp [intOf]; omega
      · have hok' : Ix.insnOk op d a b im = false := by simpa using hok
        have HN : Hid (allOk l = false) := Lib.hid (ok_none l k hlt (by rw [HX.out]; exact hok'))
        rw [errI_no _ _ _ _ _ hok'] at HE
        clear hot hct hO hok hok' hB hb
        generalize encS op d a b im = S at *
        go_wp2_with fail
        refine HE.out.mono ?_
        rintro e w1 ⟨rfl, q⟩
        have hb3 := hb2.trans (q.mono hb2.size)
        clear HB HE q hb2 c0 c1 c2 c3 c4
        go_wp2
        go_ret2
        exact ⟨ret_se (allS_no l HN.out).symm (allE_no l HN.out).symm, hb3⟩
    · have hkk : l.take k = l := List.take_of_length_le (by omega)
      have HKK := Lib.hid hkk
      clear hkk
      go_wp2_with fail
      refine (string_any w.heap.size w.heap.size _ wr hB.out hb.size).mono ?_
      rintro e w1 ⟨rfl, q⟩
      go_wp2
      go_ret2
      have ho := hO.out
      rw [HKK.out] at ho
      exact ⟨ret_se (by rw [HKK.out, allS_ok l ho]) (allE_ok l ho).symm, hb.trans q⟩
end Go.Proofs.YtillcbmjpcbpaaaDoor
