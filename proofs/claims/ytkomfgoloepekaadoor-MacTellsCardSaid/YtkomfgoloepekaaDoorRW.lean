/- aediculeref03.with, Block, Sum: the document's answer is the sum of the text by the key. -/
import Derived.Test.YtkomfgoloepekaaDoorRI
import Derived.Test.YtkomfgoloepekaaDoorYK
set_option linter.unusedVariables false
namespace Go.Proofs.YtkomfgoloepekaaDoor
open Go.RowKit

theorem withc_take (c : Nat) (s : ByteArray) (k : Nat) (h : k < s.size) : Mc.withc c ((nats s).take (k + 1)) = Mc.withc c ((nats s).take k) ++ [s[k].toNat ^^^ c] := by
  have h2 : k < (nats s).length := by rw [nats_length]; exact h
  unfold Mc.withc
  rw [List.take_succ_eq_append_getElem h2, List.map_append, nats_get s k h h2]
  rfl

set_option maxHeartbeats 1000000 in
set_option maxRecDepth 100000 in
theorem rwith_any (s : ByteArray) (c : Nat) (hc : c < 256) (hs : s.size ≤ 1048576) (w : World) :
    Calls Tryd.prog 18 #[.string s, .int .u8 (c : Int)] w fun e w' => e = .returned (.string (str (Mc.withc c (nats s)))) ∧ Below w.heap.size w w' := by
  obtain ⟨i0, hi, hz0, hz1, hz2⟩ := info_parts infoByte
  obtain ⟨B, hB⟩ : ∃ B, B = w.heap.size := ⟨_, rfl⟩
  have HB := Lib.hid hB
  obtain ⟨C, hCC⟩ : ∃ C : Int, C = (c : Int) := ⟨_, rfl⟩
  have C0 : 0 ≤ C := by omega
  have C1 : C < 256 := by omega
  have HCC := Lib.hid hCC
  have HC := Lib.hid hc
  have s1 : (s.size : Int) ≤ 1048576 := by omega
  rw [← hCC, ← hB]
  clear hCC hB hc hs
  go_enter Tryd.func18, Tryd.ntmps18
  go_wp2
  go_loopw [5, 6] (fun sl i wr => ∃ (k : Nat) (z : Value), k ≤ s.size ∧ i = .int .i64 k ∧ z = sl ∧ Hid (OwnB B (Mc.withc c ((nats s).take k)) z wr) ∧ Below B w wr) (fun _ i _ => s.size - (intOf i).toNat)
  case atStart => exact ⟨0, .slice none 0 0, by omega, rfl, rfl, Lib.hid (ownB_nil _ _), Below.refl _ _⟩
  case round =>
    obtain ⟨k, sl, hk, rfl, rfl, HO, hb⟩ := hrel
    by_cases hlt : k < s.size
    · have hlen : (Mc.withc c ((nats s).take k)).length = k := by rw [Mc.withc_length, List.length_take, nats_length]; omega
      have Hown : Hid (wr.ownsRow B 5 1 sl k (u8s (Mc.withc c ((nats s).take k)))) := by have := HO.out; unfold OwnB at this; rw [hlen] at this; exact Lib.hid this
      have HT := Lib.hid (withc_take c s k hlt)
      have hBs : B ≤ wr.heap.size := by have := hb.size; have := HB.out; omega
      have Hlen := Lib.hid hlen
      obtain ⟨X, hX⟩ : ∃ X : Int, X = (s[k].toNat : Int) := ⟨_, rfl⟩
      have hx2 := s[k].toNat_lt
      obtain ⟨z, hz⟩ : ∃ z : Nat, z = s[k].toNat ^^^ c := ⟨_, rfl⟩
      have HX : Hid (bits .xor .u8 X C = (z : Int)) := by rw [hX, HCC.out, hz]; exact Lib.hid (u8_xor_nat _ c hx2 HC.out)
      rw [← hz] at HT
      have hidx : ∀ W, (Instr.index 9 (.string s) (.int .i64 (k : Int))).run Tryd.prog W = .ok (.int .u8 X) W := by
        intro W
        rw [hX]
        have h1 : (0 : Int) ≤ (k : Int) ∧ (k : Int) < (s.size : Int) := by omega
        simp [go_sem, Instr.index, hlt]
      have x0 : 0 ≤ X := by omega
      have x1 : X < 256 := by omega
      have k0 : (0 : Int) ≤ (k : Int) := by omega
      have k1 : (k : Int) < (s.size : Int) := by omega
      have K3 : Hid (k + 1 ≤ maxLen) := Lib.hid (by unfold maxLen; omega)
      have K4 : Hid ((k + 1) * 1 ≤ 140737488355328) := Lib.hid (by omega)
      clear hlen HO hX hx2 hz
      go_wp2_with (at_builtin; refine wpList_append_own _ rfl (.tmp 13) (.tmp 19) 33 rfl B 5 i0 (.int .u8 0) 1 1 Tryd.underlying33 hi hz0 hz1 hz2 rfl (by decide) _ _ _ rfl (Hown.out.alloc _) ⟨wr.heap.size, 0, none⟩ 1 1 [.int .u8 (bits .xor .u8 X C)] rfl rfl ?c1 ?c2 K3.out K4.out ?c5 ?_)
      case c1 => exact World.news_of_block (cs := #[.int .u8 (bits .xor .u8 X C)]) (t := 5) (fr := (0, 0)) (heap_alloc_new wr _)
      case c2 => intro u hu; simp only [List.mem_singleton] at hu; subst hu; rfl
      case c5 => simp; omega
      intro z' w2 hown' hgrow' _
      have hb2 := appB_below hb hBs Hown.out hgrow'
      have HO2 : Hid (OwnB B (Mc.withc c ((nats s).take (k + 1))) z' w2) := by
        rw [HX.out] at hown'
        rw [HT.out]
        exact Lib.hid (ownB_more (m := [z]) (by rw [Hlen.out]; rfl) hown')
      clear hown' hgrow' Hown hb Hlen HT hidx HX K3 K4
      go_wp2
      go_roundw
      case rel => exact ⟨k + 1, z', by omega, by go_num, rfl, HO2, hb2⟩
      case measure => simp [intOf]; omega
    · have hconv := ownB_text HO.out (Mc.withc_small _ _ HC.out (fun x hx => nats_small s x (List.mem_of_mem_take hx)))
      have HE := Lib.hid (show (nats s).take k = nats s by rw [List.take_of_length_le (by rw [nats_length]; omega)])
      obtain ⟨a', n', c', hsl⟩ := ownB_slice HO.out
      subst hsl
      go_wp2
      go_ret
      exact ⟨ret_str (by rw [HE.out]), hb⟩
end Go.Proofs.YtkomfgoloepekaaDoor
