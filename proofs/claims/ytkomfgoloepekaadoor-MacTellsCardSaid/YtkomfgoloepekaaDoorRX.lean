/- aediculeref03.Block, Sum: the document's answer is the sum of the text by the key. -/
import Derived.Test.YtkomfgoloepekaaDoorRW
set_option linter.unusedVariables false
namespace Go.Proofs.YtkomfgoloepekaaDoor
open Go.RowKit

set_option maxHeartbeats 1000000 in
set_option maxRecDepth 100000 in
theorem rblock_any (s : ByteArray) (hs : s.size ≤ 1048576) (w : World) :
    Calls Tryd.prog 16 #[.string s] w fun e w' => e = .returned (.string (str (Mc.block (nats s)))) ∧ Below w.heap.size w w' := by
  obtain ⟨i0, hi, hz0, hz1, hz2⟩ := info_parts infoByte
  have HN := Lib.hid (nats_length s)
  obtain ⟨B, hB⟩ : ∃ B, B = w.heap.size := ⟨_, rfl⟩
  have HB := Lib.hid hB
  obtain ⟨w0, hw0⟩ : ∃ w0, w0 = w := ⟨_, rfl⟩
  have HW0 : Hid (Below B w0 w) := by rw [hw0]; exact Lib.hid (Below.refl _ _)
  have HS := Lib.hid (fun w => Rf.rsum_any s hs w)
  have hs' : (s.size : Int) ≤ 1048576 := by omega
  obtain ⟨b, hb⟩ : ∃ b, b = Mc.block (nats s) := ⟨_, rfl⟩
  have HBd : Hid (b = Mc.key (nats s) ++ List.replicate (64 - (Mc.key (nats s)).length) 0) := Lib.hid hb
  rw [← hb, ← hB]
  have HE : ∀ (e : Ending) w', e = .returned (.string (str b)) ∧ Below B w0 w' → e = .returned (.string (str b)) ∧ Below B w w' := fun e w' h => by rw [← hw0]; exact h
  refine Calls.mono ?_ (fun e w' h => HE e w' h)
  clear HE hw0 hs hb hB
  go_enter Tryd.func16, Tryd.ntmps16
  by_cases hlong : 64 < s.size
  case' pos =>
    have h1 : (64 : Int) < (s.size : Int) := by omega
    have HKey : Hid (Mc.key (nats s) = Sh.sum (nats s)) := Lib.hid (by unfold Mc.key; rw [if_pos (by rw [HN.out]; exact hlong)])
    go_wp2_with fail
    refine (HS.out _).mono ?_; rintro e w1 ⟨rfl, q⟩
    obtain ⟨u, hu⟩ : ∃ u, u = str (Sh.sum (nats s)) := ⟨_, rfl⟩
    have HU : Hid (nats u = Mc.key (nats s)) := by rw [hu, HKey.out]; exact Lib.hid (nats_str _ (Mc.sum_small _))
    have hu64 : u.size ≤ 64 := by have h1 := nats_length u; rw [HU.out] at h1; have := Mc.key_length (nats s); omega
    rw [← HB.out] at q
    have HB1 : Hid (B ≤ w1.heap.size) := Lib.hid (by have := q.size; have := HB.out; omega)
    replace q := HW0.out.trans q
    rw [← hu]
    have HBu : Hid (b = nats u ++ List.replicate (64 - u.size) 0) := by rw [← nats_length u, HU.out]; exact HBd
    clear hu HKey h1 HS HN hlong HB HW0 HU HBd hs'
  case' neg =>
    have h1 : (s.size : Int) ≤ 64 := by omega
    have hu64 : s.size ≤ 64 := by omega
    have HKey : Hid (Mc.key (nats s) = nats s) := Lib.hid (by unfold Mc.key; rw [if_neg (by rw [HN.out]; exact hlong)])
    have HBu : Hid (b = nats s ++ List.replicate (64 - s.size) 0) := by rw [← nats_length s]; have h := HBd.out; rw [HKey.out] at h; exact Lib.hid h
    have HB1 : Hid (B ≤ w.heap.size) := Lib.hid (Nat.le_of_eq HB.out)
    have q := HW0.out
    clear HKey HS HN hlong HB HW0 HBd hs'
    obtain ⟨w1, hw1⟩ : ∃ w1, w1 = w := ⟨_, rfl⟩
    subst hw1
    obtain ⟨u, hu⟩ : ∃ u, u = s := ⟨_, rfl⟩
    subst hu
  all_goals
    obtain ⟨n, hn⟩ : ∃ n, n = 64 - u.size := ⟨_, rfl⟩
    have hn3 : (64 : Int) - (u.size : Int) = (n : Int) := by omega
    have n64 : (n : Int) ≤ 64 := by omega
    have u64 : (u.size : Int) ≤ 64 := by omega
    obtain ⟨Z, hZ⟩ : ∃ Z, Z = str (List.replicate n 0) := ⟨_, rfl⟩
    have z64 : (Z.size : Int) ≤ 64 := by rw [hZ, size_str, List.length_replicate]; omega
    have HZ := Lib.hid hZ
    have HF : Hid (u ++ Z = str b) := by
      have h : nats (u ++ Z) = b := by rw [nats_append, HZ.out, nats_str _ (fun x hx => by rw [List.mem_replicate] at hx; omega), HBu.out, hn]
      rw [← h, str_nats]; exact Lib.hid rfl
    have HBy : Hid (i0.bytes * n ≤ 281474976710656) := Lib.hid (by rw [hz2]; omega)
    have HX : Hid (n ≤ maxLen) := Lib.hid (by unfold maxLen; omega)
    clear HBu hu64 hn hZ
    go_wp2_with (at_make; refine wpList_make_full _ rfl _ _ 33 rfl B 5 i0 (.int .u8 0) 1 Tryd.underlying33 hi hz0 hz1 .i64 .i64 _ _ n rfl rfl rfl rfl HBy.out HX.out HB1.out ?_; intro w2 hown hgrow; have hconv := ownB_text (zeros_row hown) (fun x hx => by rw [List.mem_replicate] at hx; omega); rw [← HZ.out] at hconv)
    try go_wp2
    go_ret
    exact ⟨ret_str HF.out, q.grown hgrow HB1.out (fun k hk => by have h : (none : Option Nat) = some k := hk; cases h)⟩

set_option maxHeartbeats 1000000 in
set_option maxRecDepth 100000 in
theorem rmac_any (s t : ByteArray) (hs : s.size ≤ 1048576) (ht : t.size ≤ 1000000) (w : World) :
    Calls Tryd.prog 8 #[.string s, .string t] w fun e w' => e = .returned (.string (str (Mc.mac (nats s) (nats t)))) ∧ Below w.heap.size w w' := by
  have HBk := Lib.hid (fun w => rblock_any s hs w)
  obtain ⟨b, hb⟩ : ∃ b, b = str (Mc.block (nats s)) := ⟨_, rfl⟩
  have hbn : nats b = Mc.block (nats s) := by rw [hb]; exact nats_str _ (Mc.block_small _ (nats_small s))
  have hbs : b.size = 64 := by rw [← nats_length, hbn]; exact Mc.block_length _
  obtain ⟨I, hI⟩ : ∃ I, I = str (Mc.inner (nats s)) := ⟨_, rfl⟩
  obtain ⟨O, hO⟩ : ∃ O, O = str (Mc.outer (nats s)) := ⟨_, rfl⟩
  have nI : nats I = Mc.inner (nats s) := by rw [hI]; exact nats_str _ (Mc.inner_small _ (nats_small s))
  have nO : nats O = Mc.outer (nats s) := by rw [hO]; exact nats_str _ (Mc.outer_small _ (nats_small s))
  have sI : I.size = 64 := by rw [← nats_length, nI]; exact Mc.inner_length _
  have sO : O.size = 64 := by rw [← nats_length, nO]; exact Mc.outer_length _
  obtain ⟨D, hD⟩ : ∃ D, D = str (Sh.sum (nats (I ++ t))) := ⟨_, rfl⟩
  have nD : nats D = Sh.sum (Mc.inner (nats s) ++ nats t) := by rw [hD, nats_str _ (Mc.sum_small _), nats_append, nI]
  have sD : D.size = 32 := by rw [← nats_length, nD]; exact Sh.sum_length _
  have H1 := Lib.hid (fun w => rwith_any b 92 (by decide) (by omega) w)
  have H2 := Lib.hid (fun w => rwith_any b 54 (by decide) (by omega) w)
  have H3 := Lib.hid (fun w => Rf.rsum_any (I ++ t) (by rw [ByteArray.size_append]; omega) w)
  have H4 := Lib.hid (fun w => Rf.rsum_any (O ++ D) (by rw [ByteArray.size_append]; omega) w)
  have HE : Hid (str (Sh.sum (nats (O ++ D))) = str (Mc.mac (nats s) (nats t))) := by
    rw [nats_append, nO, nD]; exact Lib.hid rfl
  rw [hbn, show Mc.withc 92 (Mc.block (nats s)) = Mc.outer (nats s) from rfl, ← hO] at H1
  rw [hbn, show Mc.withc 54 (Mc.block (nats s)) = Mc.inner (nats s) from rfl, ← hI] at H2
  rw [← hD] at H3
  rw [HE.out] at H4
  rw [← hb] at HBk
  have iI : (I.size : Int) = 64 := by omega
  have iO : (O.size : Int) = 64 := by omega
  have iD : (D.size : Int) = 32 := by omega
  have it : (t.size : Int) ≤ 1000000 := by omega
  generalize str (Mc.mac (nats s) (nats t)) = M at *
  clear hb hbn hbs hI hO nI nO sI sO hD nD sD HE hs ht
  go_enter Tryd.func8, Tryd.ntmps8
  go_wp2_with fail
  refine (HBk.out _).mono ?_; rintro e w1 ⟨rfl, hb⟩
  go_wp2_with fail
  refine (H1.out _).mono ?_; rintro e w2 ⟨rfl, q⟩
  replace hb := hb.trans (q.mono hb.size); clear q
  go_wp2_with fail
  refine (H2.out _).mono ?_; rintro e w3 ⟨rfl, q⟩
  replace hb := hb.trans (q.mono hb.size); clear q
  go_wp2_with fail
  refine (H3.out _).mono ?_; rintro e w4 ⟨rfl, q⟩
  replace hb := hb.trans (q.mono hb.size); clear q
  go_wp2_with fail
  refine (H4.out _).mono ?_; rintro e w5 ⟨rfl, q⟩
  replace hb := hb.trans (q.mono hb.size); clear q
  go_wp2
  go_ret
  exact ⟨rfl, hb⟩
end Go.Proofs.YtkomfgoloepekaaDoor
