/- sha.padding. -/
import Derived.Test.YtkomfgoloepekaaDoorD
set_option linter.unusedVariables false
namespace Go.Proofs.YtkomfgoloepekaaDoor
open Go.RowKit

theorem ownB_new {B : Nat} (x : Nat) (w : World) (hB : B ≤ w.heap.size) : OwnB B [x] (.slice (some ⟨w.heap.size, 0, none⟩) 1 1) (w.alloc (.cells #[.int .u8 (x : Int)] 5)) :=
  ⟨by simp [u8s], Or.inr ⟨w.heap.size, 1, #[.int .u8 (x : Int)], rfl, hB, heap_alloc_new w _, by simp, by unfold maxLen; omega, rfl, rfl⟩⟩
namespace Sh
/-- The first bytes of what is appended: k zeros behind the mark. -/
def padz (k : Nat) : List Nat := 128 :: List.replicate k 0
theorem padz_length (k : Nat) : (padz k).length = k + 1 := by simp [padz]
theorem padz_succ (k : Nat) : padz (k + 1) = padz k ++ [0] := by simp [padz, List.replicate_succ']
def padi (n i : Nat) : List Nat := padz ((119 - n % 64) % 64) ++ (List.range i).map fun i => 8 * n / 2 ^ (56 - 8 * i) % 256
theorem padi_zero (n : Nat) : padi n 0 = padz ((119 - n % 64) % 64) := by simp [padi]
theorem padi_succ (n i : Nat) : padi n (i + 1) = padi n i ++ [8 * n / 2 ^ (56 - 8 * i) % 256] := by simp [padi, List.range_succ]
theorem padi_eight (n : Nat) : padi n 8 = pad n := by simp [padi, pad, padz]
theorem padi_length (n i : Nat) : (padi n i).length = (119 - n % 64) % 64 + 1 + i := by simp [padi, padz_length]
end Sh

set_option maxHeartbeats 400000 in
set_option maxRecDepth 100000 in
theorem padding_any (n : Nat) (hn : n ≤ 140737488351232) (w : World) :
    Calls Tryd.prog 31 #[.int .i64 (n : Int)] w fun e w' => e = .returned (.string (str (Sh.pad n))) ∧ Below w.heap.size w w' := by
  obtain ⟨i0, hi, hz0, hz1, hz2⟩ := info_parts infoByte
  obtain ⟨B, hB⟩ : ∃ B, B = w.heap.size := ⟨_, rfl⟩
  obtain ⟨K, hK⟩ : ∃ K, K = (119 - n % 64) % 64 := ⟨_, rfl⟩
  have HO : Hid (OwnB w.heap.size (Sh.padz 0) (.slice (some ⟨w.heap.size, 0, none⟩) 1 1) (w.alloc (.cells #[.int .u8 (128 : Int)] 5))) := Lib.hid (ownB_new 128 w (Nat.le_refl _))
  have hb0 : Below w.heap.size w (w.alloc (.cells #[.int .u8 (128 : Int)] 5)) := (Below.refl _ _).alloc (Nat.le_refl _) _
  have hK2 : K ≤ 63 := by omega
  have HK := Lib.hid hK
  have HB := Lib.hid hB
  rw [← hB] at HO hb0
  clear hK hB
  go_enter Tryd.func31, Tryd.ntmps31
  go_wp2
  rw [← HB.out]
  go_loopw [3] (fun t3 wr => ∃ (k : Nat) (z : Value), k ≤ K ∧ z = t3 ∧ Hid (OwnB B (Sh.padz k) z wr) ∧ Below B w wr) (fun t3 _ => match t3 with | .slice _ n _ => 64 - n | _ => 0)
  case atStart => exact ⟨0, _, by omega, rfl, by rw [HB.out] at HO ⊢; exact HO, by rw [HB.out] at hb0 ⊢; exact hb0⟩
  case round =>
    clear HO hb0
    obtain ⟨k, sl, hk, rfl, HO, hb⟩ := hrel
    obtain ⟨a', c', hsl⟩ := ownB_len HO.out
    rw [Sh.padz_length] at hsl
    subst hsl
    have hBs : B ≤ wr.heap.size := by have := hb.size; have := HB.out; omega
    by_cases hlt : k < K
    · have ht : (((n : Int) + ((k : Int) + 1)) % 64 != 56) = true := by have := HK.out; simp; omega
      have Hown : Hid (wr.ownsRow B 5 1 (.slice a' (k + 1) c') (k + 1) (u8s (Sh.padz k))) := by
        have h := HO.out
        unfold OwnB at h
        rw [Sh.padz_length] at h
        exact Lib.hid h
      clear HO
      go_wp2_with (at_builtin; refine wpList_append_own _ rfl (.tmp 13) (.tmp 14) 33 rfl B 5 i0 (.int .u8 0) 1 1 Tryd.underlying33 hi hz0 hz1 hz2 rfl (by decide) _ _ _ rfl (Hown.out.alloc _) ⟨wr.heap.size, 0, none⟩ 1 1 [.int .u8 0] rfl rfl ?c1 ?c2 ?c3 ?c4 ?c5 ?_)
      case c1 => exact World.news_of_block (cs := #[.int .u8 0]) (t := 5) (fr := (0, 0)) (heap_alloc_new wr _)
      case c2 => intro u hu; simp only [List.mem_singleton] at hu; subst hu; rfl
      case c3 => unfold maxLen; omega
      case c4 => omega
      case c5 => simp; omega
      intro z' w2 hown' hgrow' _
      have hb2 := appB_below hb hBs Hown.out hgrow'
      have HO2 : Hid (OwnB B (Sh.padz (k + 1)) z' w2) := by
        rw [Sh.padz_succ]
        exact Lib.hid (ownB_more (m := [0]) (by rw [Sh.padz_length]; rfl) hown')
      obtain ⟨a2, c2, hsl2⟩ := ownB_len HO2.out
      rw [Sh.padz_length] at hsl2
      subst hsl2
      clear hown' hgrow' Hown hb ht
      go_wp2
      go_roundw
      case rel => exact ⟨k + 1, _, by omega, rfl, HO2, hb2⟩
      case measure => simp; omega
    · have hkK : k = K := by omega
      subst hkK
      have ht : (((n : Int) + ((k : Int) + 1)) % 64 != 56) = false := by have := HK.out; simp; omega
      obtain ⟨sl, hsl⟩ : ∃ sl, sl = Value.slice a' (k + 1) c' := ⟨_, rfl⟩
      have HO2 : Hid (OwnB B (Sh.padi n 0) sl wr) := by rw [hsl, Sh.padi_zero, ← HK.out]; exact HO
      have hn0 : (0 : Int) ≤ (n : Int) := by omega
      have hn1 : (n : Int) ≤ 140737488351232 := by omega
      clear HO hlt
      go_wp2
      go_loopw [3, 19] (fun t3 t19 wr => ∃ (i : Nat) (z : Value), i ≤ 8 ∧ z = t3 ∧ t19 = .int .i64 i ∧ Hid (OwnB B (Sh.padi n i) z wr) ∧ Below B w wr) (fun _ t19 _ => (8 - intOf t19).toNat)
      case atStart => exact ⟨0, _, by omega, rfl, rfl, by rw [← hsl]; exact HO2, hb⟩
      case round =>
        clear HO2 hb hsl hBs ht
        obtain ⟨i, z, hi8, rfl, rfl, HO, hb⟩ := hrel
        have hBs : B ≤ wr.heap.size := by have := hb.size; have := HB.out; omega
        by_cases hlt : i < 8
        · obtain ⟨m, hm⟩ : ∃ m : Nat, m = 56 - 8 * i := ⟨_, rfl⟩
          have hm2 : (56 : Int) - 8 * (i : Int) = (m : Int) := by omega
          have hm0 : (0 : Int) ≤ (m : Int) := by omega
          have hm1 : (m : Int) ≤ 56 := by omega
          have Hown : Hid (wr.ownsRow B 5 1 z (k + 1 + i) (u8s (Sh.padi n i))) := by
            have h := HO.out
            unfold OwnB at h
            rw [Sh.padi_length, ← HK.out] at h
            exact Lib.hid h
          have HT : Hid (Sh.padi n (i + 1) = Sh.padi n i ++ [8 * n / 2 ^ m % 256]) := by rw [hm]; exact Lib.hid (Sh.padi_succ n i)
          have HV : Hid (u8s [8 * n / 2 ^ m % 256] = [.int .u8 (8 * (n : Int) / 2 ^ m % 256)]) := Lib.hid (by simp [u8s])
          clear HO hm
          go_wp2_with (at_builtin; refine wpList_append_own _ rfl (.tmp 22) (.tmp 29) 33 rfl B 5 i0 (.int .u8 0) 1 1 Tryd.underlying33 hi hz0 hz1 hz2 rfl (by decide) _ _ _ rfl (Hown.out.alloc _) ⟨wr.heap.size, 0, none⟩ 1 1 [.int .u8 (8 * (n : Int) / 2 ^ m % 256)] rfl rfl ?d1 ?d2 ?d3 ?d4 ?d5 ?_)
          case d1 => exact World.news_of_block (cs := #[.int .u8 (8 * (n : Int) / 2 ^ m % 256)]) (t := 5) (fr := (0, 0)) (heap_alloc_new wr _)
          case d2 => intro u hu; simp only [List.mem_singleton] at hu; subst hu; rfl
          case d3 => unfold maxLen; omega
          case d4 => omega
          case d5 => simp; omega
          intro z' w2 hown' hgrow' _
          have hb2 := appB_below hb hBs Hown.out hgrow'
          have HO2 : Hid (OwnB B (Sh.padi n (i + 1)) z' w2) := by
            rw [HT.out]
            rw [← HV.out] at hown'
            exact Lib.hid (ownB_more (by rw [Sh.padi_length, ← HK.out]; rfl) hown')
          clear hown' hgrow' Hown hb hm2 hm0 hm1 HT HV
          go_wp2
          go_roundw
          case rel => exact ⟨i + 1, z', by omega, rfl, by go_num, HO2, hb2⟩
          case measure => simp [intOf]; omega
        · have hi8' : i = 8 := by omega
          subst hi8'
          rw [show ((8 : Nat) : Int) = 8 from rfl]
          have hconv := ownB_text HO.out (by rw [Sh.padi_eight]; exact Sh.pad_small n)
          obtain ⟨a2, n2, c2, hsl⟩ := ownB_slice HO.out
          have HE := Lib.hid (Sh.padi_eight n)
          subst hsl
          go_wp2
          go_ret
          exact ⟨ret_str (by rw [HE.out]), by rw [← HB.out]; exact hb⟩
end Go.Proofs.YtkomfgoloepekaaDoor
