/- aediculeref02.filled: a text, filled up. -/
import Derived.Test.YtkomfgoloepekaaDoorRG
import Derived.Test.YtkomfgoloepekaaDoorE
import Derived.Test.YtkomfgoloepekaaDoorQM
set_option linter.unusedVariables false
namespace Go.Proofs.YtkomfgoloepekaaDoor.Rf
open Go.RowKit

def OwnM (B : Nat) (l : List Nat) (v : Value) (w : World) : Prop := ownsRowM w B 5 1 v l.length (u8s l)
theorem ownM_len {B : Nat} {l : List Nat} {v : Value} {w : World} (h : OwnM B l v w) : ∃ a c, v = .slice a l.length c := by
  unfold OwnM at h
  rcases h.2 with ⟨rfl, h0⟩ | ⟨g, cap, cur, fz, rfl, _⟩
  · have : l = [] := by simpa [u8s] using h0
    subst this
    exact ⟨none, 0, rfl⟩
  · exact ⟨_, _, rfl⟩
theorem ownM_more {B : Nat} {l m : List Nat} {v : Value} {w : World} {n : Nat} (hn : n = l.length + m.length) (h : ownsRowM w B 5 1 v n (u8s l ++ u8s m)) : OwnM B (l ++ m) v w := by
  subst hn
  unfold OwnM
  rw [List.length_append, show u8s (l ++ m) = u8s l ++ u8s m by simp [u8s]]
  exact h
theorem appM_below {B n : Nat} {l : List Nat} {v : Value} {w wr w1 : World} {X : Obj} (hb : Below B w wr) (hB : B ≤ wr.heap.size) (hown : ownsRowM wr B 5 1 v n (u8s l)) (hg : (wr.alloc X).grownBy w1 v.ownBlock) : Below B w w1 :=
  (hb.alloc hB X).grown hg (by simp; omega) (fun k hk => (hown.lt k hk).1)
theorem nats_cells (s : ByteArray) : (s.data.toList.map fun b => Value.int .u8 (b.toNat : Int)) = u8s (nats s) := by simp [u8s, nats, List.map_map, Function.comp_def]

set_option maxHeartbeats 1000000 in
set_option maxRecDepth 100000 in
theorem filled_any (s : ByteArray) (hs : s.size ≤ 1048576) (w : World) :
    Calls Tryd.prog 26 #[.string s] w fun e w' => ∃ v, e = .returned v ∧ OwnM w.heap.size (nats s ++ Sh.pad s.size) v w' ∧ Below w.heap.size w w' := by
  obtain ⟨i0, hi, hz0, hz1, hz2⟩ := info_parts infoByte
  obtain ⟨n, hn⟩ : ∃ n, n = s.size := ⟨_, rfl⟩
  obtain ⟨K, hK⟩ : ∃ K, K = (119 - n % 64) % 64 := ⟨_, rfl⟩
  obtain ⟨B, hB⟩ : ∃ B, B = w.heap.size := ⟨_, rfl⟩
  have HC := Lib.run_convert_string_bytes (P := Tryd.prog) w 9 33 5 s Tryd.underlying9 Tryd.underlying33 Tryd.underlying5
  have hO := bytes_own w 5 s (by unfold maxLen; omega)
  have hb0 := bytes_below w 5 s
  rw [nats_cells] at hO
  obtain ⟨wb, hwb⟩ : ∃ wb, wb = Lib.bytesWorld w 5 s := ⟨_, rfl⟩
  obtain ⟨cap, hcap⟩ : ∃ cap, cap = grownCap w s.size 0 5 := ⟨_, rfl⟩
  rw [← hwb, ← hcap] at HC hO
  rw [← hwb] at hb0
  rw [← hB] at HC hO hb0 ⊢
  rw [← hn] at HC hO hs ⊢
  have HN : Hid ((nats s).length = n) := Lib.hid (by rw [nats_length, hn])
  have hsn : (s.size : Int) = (n : Int) := by omega
  have HO := Lib.hid hO
  have HK := Lib.hid hK
  have HB := Lib.hid hB
  have hBs : B ≤ wb.heap.size := by have := hb0.size; omega
  have hK2 : K ≤ 63 := by omega
  have K3 : Hid (n + 1 ≤ maxLen) := Lib.hid (by unfold maxLen; omega)
  have K4 : Hid ((n + 1) * 1 ≤ 140737488355328) := Lib.hid (by omega)
  clear hO hK hB hwb hcap hn
  go_enter Tryd.func26, Tryd.ntmps26
  go_wp2_with (at_builtin; refine wpList_append_ownM _ rfl (.tmp 7) (.tmp 8) 33 rfl B 5 i0 (.int .u8 0) 1 1 Tryd.underlying33 hi hz0 hz1 hz2 rfl (by decide) _ _ _ rfl (HO.out.alloc _) ⟨wb.heap.size, 0, none⟩ 1 1 [.int .u8 128] rfl rfl ?c1 ?c2 K3.out K4.out ?c5 ?_)
  case c1 => exact World.news_of_block (cs := #[.int .u8 128]) (t := 5) (fr := (0, 0)) (heap_alloc_new wb _)
  case c2 => intro u hu; simp only [List.mem_singleton] at hu; subst hu; rfl
  case c5 => simp; omega
  intro z' w2 hown' hgrow'
  have hb2 := appM_below hb0 hBs HO.out hgrow'
  have HO2 : Hid (OwnM B (nats s ++ Sh.padz 0) z' w2) := Lib.hid (ownM_more (m := [128]) (by rw [HN.out]; rfl) hown')
  clear hown' hgrow' HO hb0 HC hBs K3 K4
  go_wp2
  go_loopw [3] (fun t3 wr => ∃ (k : Nat) (z : Value), k ≤ K ∧ z = t3 ∧ Hid (OwnM B (nats s ++ Sh.padz k) z wr) ∧ Below B w wr) (fun t3 _ => match t3 with | .slice _ m _ => n + 64 - m | _ => 0)
  case atStart => exact ⟨0, _, by omega, rfl, HO2, hb2⟩
  case round =>
    clear HO2 hb2
    obtain ⟨k, sl, hk, rfl, HO, hb⟩ := hrel
    obtain ⟨a', c', hsl⟩ := ownM_len HO.out
    rw [List.length_append, Sh.padz_length, HN.out] at hsl
    subst hsl
    have hBs : B ≤ wr.heap.size := by have := hb.size; have := HB.out; omega
    have Hown : Hid (ownsRowM wr B 5 1 (.slice a' (n + (k + 1)) c') (n + (k + 1)) (u8s (nats s ++ Sh.padz k))) := by
      have h := HO.out
      unfold OwnM at h
      rw [List.length_append, Sh.padz_length, HN.out] at h
      exact Lib.hid h
    have hcast : ((n + (k + 1) : Nat) : Int) = (n : Int) + ((k : Int) + 1) := by omega
    by_cases hlt : k < K
    · have ht : (((n : Int) + ((k : Int) + 1)) % 64 != 56) = true := by have := HK.out; simp; omega
      have K3 : Hid (n + (k + 1) + 1 ≤ maxLen) := Lib.hid (by unfold maxLen; omega)
      have K4 : Hid ((n + (k + 1) + 1) * 1 ≤ 140737488355328) := Lib.hid (by omega)
      clear HO
      go_wp2_with (at_builtin; refine wpList_append_ownM _ rfl (.tmp 14) (.tmp 15) 33 rfl B 5 i0 (.int .u8 0) 1 1 Tryd.underlying33 hi hz0 hz1 hz2 rfl (by decide) _ _ _ rfl (Hown.out.alloc _) ⟨wr.heap.size, 0, none⟩ 1 1 [.int .u8 0] rfl rfl ?c1 ?c2 K3.out K4.out ?c5 ?_)
      case c1 => exact World.news_of_block (cs := #[.int .u8 0]) (t := 5) (fr := (0, 0)) (heap_alloc_new wr _)
      case c2 => intro u hu; simp only [List.mem_singleton] at hu; subst hu; rfl
      case c5 => simp; omega
      intro z' w2 hown' hgrow'
      have hb2 := appM_below hb hBs Hown.out hgrow'
      have HO2 : Hid (OwnM B (nats s ++ Sh.padz (k + 1)) z' w2) := by
        rw [Sh.padz_succ, ← List.append_assoc]
        exact Lib.hid (ownM_more (m := [0]) (by rw [List.length_append, Sh.padz_length, HN.out]; rfl) hown')
      obtain ⟨a2, c2, hsl2⟩ := ownM_len HO2.out
      rw [List.length_append, Sh.padz_length, HN.out] at hsl2
      subst hsl2
      clear hown' hgrow' Hown hb ht K3 K4
      go_wp2
      go_roundw
      case rel => exact ⟨k + 1, _, by omega, rfl, HO2, hb2⟩
      case measure => first | omega | (simp; omega)
    · have hkK : k = K := by omega
      subst hkK
      have ht : (((n : Int) + ((k : Int) + 1)) % 64 != 56) = false := by have := HK.out; simp; omega
      obtain ⟨sl, hsl⟩ : ∃ sl, sl = Value.slice a' (n + (k + 1)) c' := ⟨_, rfl⟩
      have HO2 : Hid (OwnM B (nats s ++ Sh.padi n 0) sl wr) := by rw [hsl, Sh.padi_zero, ← HK.out]; exact HO
      have hn0 : (0 : Int) ≤ (n : Int) := by omega
      have hn1 : (n : Int) ≤ 1048576 := by omega
      clear HO hlt Hown
      go_wp2
      go_loopw [3, 5] (fun t3 t5 wr => ∃ (i : Nat) (z : Value), i ≤ 8 ∧ z = t3 ∧ t5 = .int .i64 (56 - 8 * (i : Int)) ∧ Hid (OwnM B (nats s ++ Sh.padi n i) z wr) ∧ Below B w wr) (fun _ t5 _ => (64 + intOf t5).toNat)
      case atStart => exact ⟨0, _, by omega, rfl, rfl, by rw [← hsl]; exact HO2, hb⟩
      case round =>
        clear HO2 hb hsl hBs ht
        obtain ⟨i, z, hi8, rfl, rfl, HO, hb⟩ := hrel
        have hBs : B ≤ wr.heap.size := by have := hb.size; have := HB.out; omega
        by_cases hlt : i < 8
        · obtain ⟨m, hm⟩ : ∃ m : Nat, m = 56 - 8 * i := ⟨_, rfl⟩
          have hm2 : (56 : Int) - 8 * (i : Int) = (m : Int) := by omega
          have hm3 : (m : Int) - 8 = 56 - 8 * ((i + 1 : Nat) : Int) := by omega
          have hm0 : (0 : Int) ≤ (m : Int) := by omega
          have hm1 : (m : Int) ≤ 56 := by omega
          rw [hm2]
          have Hown : Hid (ownsRowM wr B 5 1 z (n + (k + 1 + i)) (u8s (nats s ++ Sh.padi n i))) := by
            have h := HO.out
            unfold OwnM at h
            rw [List.length_append, Sh.padi_length, HN.out, ← HK.out] at h
            exact Lib.hid h
          have HT : Hid (Sh.padi n (i + 1) = Sh.padi n i ++ [8 * n / 2 ^ m % 256]) := by rw [hm]; exact Lib.hid (Sh.padi_succ n i)
          have HV : Hid (u8s [8 * n / 2 ^ m % 256] = [.int .u8 (8 * (n : Int) / 2 ^ m % 256)]) := Lib.hid (by simp [u8s])
          have K3 : Hid (n + (k + 1 + i) + 1 ≤ maxLen) := Lib.hid (by unfold maxLen; omega)
          have K4 : Hid ((n + (k + 1 + i) + 1) * 1 ≤ 140737488355328) := Lib.hid (by omega)
          clear HO hm hm2
          go_wp2_with (at_builtin; refine wpList_append_ownM _ rfl (.tmp 25) (.tmp 31) 33 rfl B 5 i0 (.int .u8 0) 1 1 Tryd.underlying33 hi hz0 hz1 hz2 rfl (by decide) _ _ _ rfl (Hown.out.alloc _) ⟨wr.heap.size, 0, none⟩ 1 1 [.int .u8 (8 * (n : Int) / 2 ^ m % 256)] rfl rfl ?d1 ?d2 K3.out K4.out ?d5 ?_)
          case d1 => exact World.news_of_block (cs := #[.int .u8 (8 * (n : Int) / 2 ^ m % 256)]) (t := 5) (fr := (0, 0)) (heap_alloc_new wr _)
          case d2 => intro u hu; simp only [List.mem_singleton] at hu; subst hu; rfl
          case d5 => simp; omega
          intro z' w2 hown' hgrow'
          have hb2 := appM_below hb hBs Hown.out hgrow'
          have HO2 : Hid (OwnM B (nats s ++ Sh.padi n (i + 1)) z' w2) := by
            rw [HT.out, ← List.append_assoc]
            rw [← HV.out] at hown'
            exact Lib.hid (ownM_more (by rw [List.length_append, Sh.padi_length, HN.out, ← HK.out]; rfl) hown')
          clear hown' hgrow' Hown hb HT HV K3 K4
          go_wp2
          go_roundw
          case rel => exact ⟨i + 1, z', by omega, rfl, by go_num, HO2, hb2⟩
          case measure => simp [intOf]; omega
        · have hi8' : i = 8 := by omega
          subst hi8'
          rw [show (56 : Int) - 8 * ((8 : Nat) : Int) = -8 from rfl]
          have HE := Lib.hid (Sh.padi_eight n)
          go_wp2
          go_ret
          exact ⟨_, rfl, by rw [← HE.out]; exact HO.out, hb⟩
end Go.Proofs.YtkomfgoloepekaaDoor.Rf
