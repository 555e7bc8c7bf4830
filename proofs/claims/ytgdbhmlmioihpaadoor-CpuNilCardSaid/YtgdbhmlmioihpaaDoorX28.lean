/- The statements' text: the bytes of instructions, one behind the other; bytes 0 for those that may not be. -/
import Derived.Test.YtgdbhmlmioihpaaDoorX21
import Derived.Test.YtgdbhmlmioihpaaDoorX00
import Derived.LoopTactic
set_option linter.unusedVariables false
namespace Go.Proofs.YtgdbhmlmioihpaaDoor
open Go Go.RowKit

def insT (x : I.Ins) : List UInt8 := if x.ok = true then x.bytes else [0, 0, 0, 0, 0, 0, 0, 0]
def textOf (l : List I.Ins) : List UInt8 := l.flatMap insT
theorem insT_length (x : I.Ins) : (insT x).length = 8 := by
  unfold insT
  split
  · exact I.Ix.bytes_length _ _ _ _ _
  · rfl
theorem textOf_length (l : List I.Ins) : (textOf l).length = 8 * l.length := by
  induction l with
  | nil => rfl
  | cons x l ih =>
    unfold textOf at *
    rw [List.flatMap_cons, List.length_append, ih, List.length_cons, insT_length]; omega
theorem textOf_take (l : List I.Ins) (k : Nat) (h : k < l.length) : textOf (l.take (k + 1)) = textOf (l.take k) ++ insT (l.getD k I.Ins.nought) := by
  unfold textOf
  rw [List.take_succ_eq_append_getElem h, List.flatMap_append, List.getD_eq_getElem?_getD, List.getElem?_eq_getElem h]
  simp

set_option maxHeartbeats 4000000 in
set_option maxRecDepth 100000 in
theorem ctext_any (l : List I.Ins) (a0 : Option Addr) (c : Nat) (w : World) (hl : l.length ≤ 200) (hF : ∀ k, k < l.length → (l.getD k I.Ins.nought).fits)
    (hA : ∀ k, k < l.length → ∃ g o, a0 = some ⟨g, o, none⟩ ∧ g < w.heap.size ∧ I.Lie w g o l) :
    Calls Tryd.prog 39 #[.slice a0 l.length c] w fun r w' => r = .returned (.string ⟨(textOf l).toArray⟩) ∧ Below w.heap.size w w' := by
  have hmk : ∀ W : World, (Instr.makeSlice 56 (.int .i64 8) (.int .i64 8)).run Tryd.prog W = .ok (.slice (some ⟨W.heap.size, 0, none⟩) 8 8) (W.alloc (.cells #[.int .u8 0, .int .u8 0, .int .u8 0, .int .u8 0, .int .u8 0, .int .u8 0, .int .u8 0, .int .u8 0] 5)) := fun _ => by kernel_rfl
  have hcv : ∀ W : World, (convert 56 9 (.slice (some ⟨W.heap.size, 0, none⟩) 8 8)).run Tryd.prog (W.alloc (.cells #[.int .u8 0, .int .u8 0, .int .u8 0, .int .u8 0, .int .u8 0, .int .u8 0, .int .u8 0, .int .u8 0] 5)) = .ok (.string ⟨#[0, 0, 0, 0, 0, 0, 0, 0]⟩) (W.alloc (.cells #[.int .u8 0, .int .u8 0, .int .u8 0, .int .u8 0, .int .u8 0, .int .u8 0, .int .u8 0, .int .u8 0] 5)) :=
    fun W => I.text_new W [0, 0, 0, 0, 0, 0, 0, 0] (by intro x hx; simp at hx; omega)
  have HMK := Lib.hid hmk
  have HCV := Lib.hid hcv
  obtain ⟨N, hN⟩ : ∃ N, N = l.length := ⟨_, rfl⟩
  have HA := Lib.hid hA
  have HF := Lib.hid hF
  have HL := Lib.hid hl
  have HN := Lib.hid hN
  rw [← hN]
  clear hmk hcv hA hF hl hN
  go_enter Tryd.func39, Tryd.ntmps39
  go_wp2_with fail
  go_loopw [3, 4] (fun s i wr => ∃ (k : Nat) (W : ByteArray), s = .string W ∧ i = .int .i64 k ∧ Hid (k ≤ N) ∧ Hid (W = ⟨(textOf (l.take k)).toArray⟩) ∧ (W.size : Int) ≤ 1600 ∧ Hid (Below w.heap.size w wr)) (fun _ i _ => N - (intOf i).toNat)
  case atStart => exact ⟨0, ⟨#[]⟩, rfl, rfl, Lib.hid (Nat.zero_le _), Lib.hid rfl, by decide, Lib.hid (Below.refl _ _)⟩
  case round =>
    obtain ⟨k, W, rfl, rfl, HK, HW, hW, HB⟩ := hrel
    by_cases hlt : (k : Int) < (N : Int)
    · have hk : k < l.length := by have := HN.out; omega
      have hw64 : IntKind.i64.wrap ((k : Int) + 1) = (k : Int) + 1 := by rw [IntKind.wrap_i64]; have := HN.out; have := HL.out; omega
      obtain ⟨g, o, rfl, hg, hLie⟩ := HA.out k hk
      obtain ⟨⟨op, d, a, b, im⟩, hx⟩ : ∃ x, l.getD k I.Ins.nought = x := ⟨_, rfl⟩
      obtain ⟨x0, x1, x2, x3, x4⟩ := (hLie.below HB.out hg).five k hk hx
      have hf := HF.out k hk
      have ht := textOf_take l k hk
      rw [hx] at hf ht
      obtain ⟨⟨h0', h1⟩, ⟨d0, d1⟩, ⟨a0', a1⟩, ⟨b0, b1⟩, ⟨i0', i1⟩⟩ := hf
      have HE := Lib.hid (I.rencode_any op d a b im h0' h1 d0 d1 a0' a1 b0 b1 i0' i1 wr)
      have hW8 : (W.size : Int) + 8 ≤ 1600 := by
        have := congrArg ByteArray.size HW.out
        have e : (⟨(textOf (l.take k)).toArray⟩ : ByteArray).size = (textOf (l.take k)).length := by simp [ByteArray.size]
        rw [e, textOf_length, List.length_take] at this
        have := HL.out
        omega
      have HK2 : Hid (k + 1 ≤ N) := Lib.hid (by omega)
      have HT : Hid (∀ S : ByteArray, S.data.toList = insT ⟨op, d, a, b, im⟩ → W ++ S = ⟨(textOf (l.take (k + 1))).toArray⟩) := Lib.hid fun S hS => by
        rw [ht, HW.out]
        apply ByteArray.ext
        rw [ByteArray.data_append]
        apply Array.toList_inj.1
        simp [hS]
      clear hx hLie hg ht h0' h1 d0 d1 a0' a1 b0 b1 i0' i1 hk
      by_cases hok : I.Ix.insnOk op d a b im = true
      · have hS : (I.encS op d a b im).data.toList = insT ⟨op, d, a, b, im⟩ := by
          unfold insT I.Ins.ok I.encS
          simp only
          rw [if_pos hok, I.Ix.enc_of_ok hok]
          rfl
        have hsz : ((I.encS op d a b im).size : Int) = 8 := by
          have := congrArg List.length hS
          rw [insT_length] at this
          have e : (I.encS op d a b im).size = (I.encS op d a b im).data.toList.length := rfl
          omega
        have HC := Lib.hid (HT.out _ hS)
        rw [I.errI_yes _ _ _ _ _ hok] at HE
        clear hok hS HT
        generalize I.encS op d a b im = S at *
        go_wp2_with fail
        refine HE.out.mono ?_
        rintro e w3 ⟨rfl, q⟩
        have HB2 : Hid (Below w.heap.size w w3) := Lib.hid (HB.out.trans (q.mono HB.out.size))
        have hsum : (W.size : Int) + (S.size : Int) ≤ 1600 := by omega
        have hsm : ((W ++ S).size : Int) ≤ 1600 := by rw [ByteArray.size_append]; omega
        have HSM := Lib.hid hsm
        clear q HE HB x0 x1 x2 x3 x4 hsm
        go_wp2_with fail
        go_roundw
        case rel => exact ⟨k + 1, _, rfl, by go_num, HK2, HC, HSM.out, HB2⟩
        case measure => simp [intOf]; have := HK2.out; omega
      · have hok' : I.Ix.insnOk op d a b im = false := by simpa using hok
        have hS : (⟨#[0, 0, 0, 0, 0, 0, 0, 0]⟩ : ByteArray).data.toList = insT ⟨op, d, a, b, im⟩ := by
          unfold insT I.Ins.ok
          simp only
          rw [if_neg hok]
        have HC := Lib.hid (HT.out _ hS)
        rw [I.errI_no _ _ _ _ _ hok', I.encS_no _ _ _ _ _ hok'] at HE
        clear hok hS HT hok'
        go_wp2_with fail
        refine HE.out.mono ?_
        rintro e w3 ⟨rfl, q⟩
        have HB2 : Hid (Below w.heap.size w (w3.alloc (.cells #[.int .u8 0, .int .u8 0, .int .u8 0, .int .u8 0, .int .u8 0, .int .u8 0, .int .u8 0, .int .u8 0] 5))) := Lib.hid ((HB.out.trans (q.mono HB.out.size)).alloc (Nat.le_trans HB.out.size q.size) _)
        have hmk := HMK.out w3
        have hcv := HCV.out w3
        obtain ⟨S, hS⟩ : ∃ S : ByteArray, S = ⟨#[0, 0, 0, 0, 0, 0, 0, 0]⟩ := ⟨_, rfl⟩
        have hsz : (S.size : Int) = 8 := by rw [hS]; rfl
        rw [← hS] at hcv HC
        have hsum : (W.size : Int) + (S.size : Int) ≤ 1600 := by omega
        have hsm : ((W ++ S).size : Int) ≤ 1600 := by rw [ByteArray.size_append]; omega
        have HSM := Lib.hid hsm
        clear q HE HB x0 x1 x2 x3 x4 hsm hS
        go_wp2_with fail
        go_roundw
        case rel => exact ⟨k + 1, _, rfl, by go_num, HK2, HC, HSM.out, HB2⟩
        case measure => simp [intOf]; have := HK2.out; omega
    · have he : Hid (W = ⟨(textOf l).toArray⟩) := Lib.hid (by
        have : k = l.length := by have := HK.out; have := HN.out; omega
        rw [HW.out, this, List.take_length])
      go_wp2_with fail
      go_ret
      exact ⟨congrArg (fun z => Ending.returned (Value.string z)) he.out, HB.out⟩
end Go.Proofs.YtgdbhmlmioihpaaDoor
