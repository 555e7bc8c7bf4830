/- SpacePerms answers true for every two perms, every address and every count: just those bytes are read, written, fetched that lie in pages whose perms say so. No condition. -/
import Derived.Test.YtfickpjecehboaaRows
import Derived.Test.YtfickpjecehboaaK
import Derived.Test.YtfickpjecehboaaSQ
import Derived.ProofKit
import Derived.OpenShut
import Derived.SizedLaws
set_option linter.unusedVariables false
namespace Go.Proofs.Ytfickpjecehboaa
open Go Go.ChangeShapes Go.WideShapes Go.ChangeAt Go.RowKit Go.Maps

theorem two_e1 (p : Nat) (hp : p < 8) : mapE A0 1024 p = 0 := by
  unfold mapE
  rw [if_neg (by omega)]; rfl
theorem two_e2 (p q : Nat) (hq : q < 8) : mapE (upd A0 4 (some (newPg p))) 1280 q = 0 := by
  unfold mapE
  rw [if_neg (by omega)]; rfl
theorem two_m1 (p : Nat) (hp : p < 8) : mapA A0 1024 p = upd A0 4 (some (newPg p)) := by unfold mapA; rw [if_pos (two_e1 p hp)]
theorem two_m2 (p q : Nat) (hq : q < 8) : mapA (upd A0 4 (some (newPg p))) 1280 q = twoP p q := by unfold mapA; rw [if_pos (two_e2 p q hq)]; rfl

theorem eq0_get (p q addr k need : Nat) (hp : p < 8) (hq : q < 8) (h1 : 1024 ≤ addr) (h2 : addr < 1536) (hk : 1 ≤ k) (hk2 : k ≤ 40) : (getE (twoP p q) need addr (k : Int) == 0) = mayB p q addr (addr + k) need := by
  unfold getE
  rw [if_neg (by omega), Int.toNat_natCast, may_is p q addr k need hp hq h1 h2 hk]
  cases mayB p q addr (addr + k) need <;> rfl
theorem eq0_put (p q addr k need : Nat) (hp : p < 8) (hq : q < 8) (h1 : 1024 ≤ addr) (h2 : addr < 1536) (hk : 1 ≤ k) : (putE (twoP p q) need addr ⟨(List.replicate k (0 : UInt8)).toArray⟩ == 0) = mayB p q addr (addr + k) need := by
  unfold putE
  rw [show (⟨(List.replicate k (0 : UInt8)).toArray⟩ : ByteArray).size = k by show (List.replicate k (0 : UInt8)).toArray.size = k; simp, may_is p q addr k need hp hq h1 h2 hk]
  cases mayB p q addr (addr + k) need <;> rfl

set_option maxHeartbeats 400000 in
set_option maxRecDepth 100000 in
/-- The walk, whatever the pages are. -/
theorem perms_abs (a0 a1 a2 a3 p q addr k en e8 e1 e0 e4 e2 : Int) (kn : Nat) (S1 S0 S4 Z : ByteArray) (X1 X2 : As)
    (L1 : Hid (∀ w, Calls Try.prog 24 #[.int .u8 p, .int .u8 q, .int .u32 addr, .int .u32 en, .int .u8 1] w fun e w' => e = .returned (.bool (e1 == 0)) ∧ w' = w))
    (L0 : Hid (∀ w, Calls Try.prog 24 #[.int .u8 p, .int .u8 q, .int .u32 addr, .int .u32 en, .int .u8 0] w fun e w' => e = .returned (.bool (e0 == 0)) ∧ w' = w))
    (L4 : Hid (∀ w, Calls Try.prog 24 #[.int .u8 p, .int .u8 q, .int .u32 addr, .int .u32 e8, .int .u8 4] w fun e w' => e = .returned (.bool (e4 == 0)) ∧ w' = w))
    (L2 : Hid (∀ w, Calls Try.prog 24 #[.int .u8 p, .int .u8 q, .int .u32 addr, .int .u32 en, .int .u8 2] w fun e w' => e = .returned (.bool (e2 == 0)) ∧ w' = w))
    (C1 : Hid (∀ (b e n : Nat) (_ : n < 1000) (w : World) (_ : SpaceAt w b e n A0), Calls Try.prog 21 #[.pointer (some ⟨b + 1, 0, none⟩), .int .u32 1024, .int .u8 p] w fun e' w' => e' = .returned (.int .i64 0) ∧ (∃ e2, e ≤ e2 ∧ SpaceAt w' b e2 (n + 1) X1) ∧ Turn w w' b e))
    (C2 : Hid (∀ (b e n : Nat) (_ : n < 1000) (w : World) (_ : SpaceAt w b e n X1), Calls Try.prog 21 #[.pointer (some ⟨b + 1, 0, none⟩), .int .u32 1280, .int .u8 q] w fun e' w' => e' = .returned (.int .i64 0) ∧ (∃ e2, e ≤ e2 ∧ SpaceAt w' b e2 (n + 1) X2) ∧ Turn w w' b e))
    (C3 : Hid (∀ (b e n : Nat) (w : World) (_ : SpaceAt w b e n X2), Calls Try.prog 22 #[.pointer (some ⟨b + 1, 0, none⟩), .int .u32 addr, .int .i64 k] w fun e' w' => e' = .returned (.tuple #[.string S1, .int .i64 e1]) ∧ Below w.heap.size w w'))
    (C4 : Hid (∀ (b e n : Nat) (w : World) (_ : SpaceAt w b e n X2), Calls Try.prog 20 #[.pointer (some ⟨b + 1, 0, none⟩), .int .u32 addr, .int .i64 k] w fun e' w' => e' = .returned (.tuple #[.string S0, .int .i64 e0]) ∧ Below w.heap.size w w'))
    (C5 : Hid (∀ (b e n : Nat) (w : World) (_ : SpaceAt w b e n X2), Calls Try.prog 23 #[.pointer (some ⟨b + 1, 0, none⟩), .int .u32 addr] w fun e' w' => e' = .returned (.tuple #[.string S4, .int .i64 e4]) ∧ Below w.heap.size w w'))
    (C6 : Hid (∀ (b e n : Nat) (w : World) (_ : SpaceAt w b e n X2), Calls Try.prog 17 #[.pointer (some ⟨b + 1, 0, none⟩), .int .u32 addr, .string Z] w fun e' w' => e' = .returned (.int .i64 e2) ∧ (∃ X3, SpaceAt w' b e n X3) ∧ Turn w w' b e))
    (r1 : a0 % 8 = p) (r2 : a1 % 8 = q) (g1 : IntKind.u32.wrap a2 = a2) (g2 : 1024 + a2 % 512 = addr) (g3 : IntKind.i64.wrap a3 = a3) (g4 : IntKind.i64.wrap (1 + a3 % 40) = k) (g5 : IntKind.u32.wrap k = k)
    (g6 : (addr + k) % 4294967296 = en) (g7 : addr + 8 = e8) (hkn : Hid (k = (kn : Int))) (HK : Hid (1 ≤ kn ∧ kn ≤ 40)) (HZs : Hid ((⟨(List.replicate kn (0 : UInt8)).toArray⟩ : ByteArray) = Z))
    (s0 : Hid (0 ≤ a0)) (s1 : Hid (0 ≤ a1)) (s2 : Hid (0 ≤ a2)) (s3 : Hid (0 ≤ a3)) (w : World) :
    Calls Try.prog 5 #[.int .u8 a0, .int .u8 a1, .int .u16 a2, .int .u8 a3] w fun e w' => e = .returned (.bool true) ∧ Below w.heap.size w w' := by
  have t0 : a0.tmod 8 = p := by rw [Int.tmod_eq_emod_of_nonneg s0.out]; exact r1
  have t1 : a1.tmod 8 = q := by rw [Int.tmod_eq_emod_of_nonneg s1.out]; exact r2
  have t2 : a2.tmod 512 = a2 % 512 := Int.tmod_eq_emod_of_nonneg s2.out
  have t3 : a3.tmod 40 = a3 % 40 := Int.tmod_eq_emod_of_nonneg s3.out
  obtain ⟨G, hG⟩ : ∃ G, G = w.heap.size := ⟨_, rfl⟩
  have HG := Lib.hid hG
  rw [← hG]
  go_enter Try.func5, Try.ntmps5
  go_wp2_with fail
  refine (new_any _).mono ?_; rintro e w1 ⟨rfl, h1, hb, hsz⟩
  rw [← hG] at h1 hb ⊢
  have HS := Lib.hid h1
  have HZ : Hid (G ≤ w1.heap.size) := Lib.hid (by omega)
  clear h1 hsz hG
  go_wp2_with fail
  refine (C1.out _ _ _ (by decide) _ HS.out).mono ?_; rintro e w2 ⟨rfl, ⟨e2', he2', h2⟩, t⟩
  replace hb := Turn.step hb t (Nat.le_refl _) HZ.out
  replace HZ : Hid (G ≤ w2.heap.size) := Lib.hid (Nat.le_trans HZ.out t.size)
  replace HS := Lib.hid h2
  clear t h2 he2'
  go_wp2_with fail
  refine (C2.out _ _ _ (by decide) _ HS.out).mono ?_; rintro e w3 ⟨rfl, ⟨e3', he3', h3⟩, t⟩
  replace hb := Turn.step hb t (Nat.le_refl _) HZ.out
  replace HZ : Hid (G ≤ w3.heap.size) := Lib.hid (Nat.le_trans HZ.out t.size)
  replace HS := Lib.hid h3
  clear t h3 he3'
  go_wp2_with fail
  refine (C3.out _ _ _ _ HS.out).mono ?_; rintro e w4 ⟨rfl, q⟩
  replace HS := Lib.hid (HS.out.below q HS.out.hi)
  replace hb := hb.trans (q.mono HZ.out)
  replace HZ : Hid (G ≤ w4.heap.size) := Lib.hid (Nat.le_trans HZ.out q.size)
  clear q
  go_wp2_with fail
  refine (C4.out _ _ _ _ HS.out).mono ?_; rintro e w5 ⟨rfl, q⟩
  replace HS := Lib.hid (HS.out.below q HS.out.hi)
  replace hb := hb.trans (q.mono HZ.out)
  replace HZ : Hid (G ≤ w5.heap.size) := Lib.hid (Nat.le_trans HZ.out q.size)
  clear q
  go_wp2_with fail
  refine (C5.out _ _ _ _ HS.out).mono ?_; rintro e w6 ⟨rfl, q⟩
  replace HS := Lib.hid (HS.out.below q HS.out.hi)
  replace hb := hb.trans (q.mono HZ.out)
  replace HZ : Hid (G ≤ w6.heap.size) := Lib.hid (Nat.le_trans HZ.out q.size)
  clear q
  obtain ⟨i0, hi, hz0, hz1, hz2⟩ := info_parts infoByte
  have HBy : Hid (i0.bytes * kn ≤ 281474976710656) := Lib.hid (by rw [hz2]; have := HK.out; omega)
  have HX : Hid (kn ≤ maxLen) := Lib.hid (by unfold maxLen; have := HK.out; omega)
  go_wp2_with (at_make; refine wpList_make_full _ rfl _ _ 52 rfl G 5 i0 (.int .u8 0) 1 Try.underlying52 hi hz0 hz1 .i64 .i64 _ _ kn rfl rfl hkn.out hkn.out HBy.out HX.out HZ.out ?_; intro w7 hown hgrow; have hconv := own_text (zeros_row hown); rw [HZs.out] at hconv)
  have hb7 : Below G w w7 := hb.grown hgrow HZ.out (fun k hk => by have h : (none : Option Nat) = some k := hk; cases h)
  have HS7 := Lib.hid (HS.out.same hgrow.size (fun j _ hj => hgrow.block j (Nat.lt_of_lt_of_le hj HS.out.hi) (by simp)))
  have HZ7 : Hid (G ≤ w7.heap.size) := Lib.hid (Nat.le_trans HZ.out hgrow.size)
  clear hown hgrow hconv hb HS HZ hi hz0 hz1 hz2 HBy HX
  refine (C6.out _ _ _ _ HS7.out).mono ?_; rintro e w8 ⟨rfl, ⟨X3, h8⟩, t⟩
  have hb8 := Turn.step hb7 t (Nat.le_refl _) HZ7.out
  have HZ8 : Hid (G ≤ w8.heap.size) := Lib.hid (Nat.le_trans HZ7.out t.size)
  clear t h8 hb7 HS7 HZ7
  go_wp2_with fail
  refine (L1.out _).mono ?_; rintro e w9 ⟨rfl, rfl⟩
  go_wp2_with fail
  refine (L0.out _).mono ?_; rintro e w9 ⟨rfl, rfl⟩
  go_wp2_with fail
  refine (L4.out _).mono ?_; rintro e w9 ⟨rfl, rfl⟩
  go_wp2_with fail
  refine (L2.out _).mono ?_; rintro e w9 ⟨rfl, rfl⟩
  go_wp2_with fail
  refine (alive_any _).mono ?_; rintro e wa ⟨rfl, q⟩
  go_wp2
  go_ret
  exact ⟨rfl, hb8.trans (q.mono HZ8.out)⟩

theorem perms_walk (a0 a1 a2 a3 : Int) (b0 : 0 ≤ a0 ∧ a0 < 256) (b1 : 0 ≤ a1 ∧ a1 < 256) (b2 : 0 ≤ a2 ∧ a2 < 65536) (b3 : 0 ≤ a3 ∧ a3 < 256) (w : World) :
    Calls Try.prog 5 #[.int .u8 a0, .int .u8 a1, .int .u16 a2, .int .u8 a3] w fun e w' => e = .returned (.bool true) ∧ Below w.heap.size w w' := by
  obtain ⟨p, hpa⟩ : ∃ p : Nat, (p : Int) = a0 % 8 := ⟨(a0 % 8).toNat, by omega⟩
  obtain ⟨q, hqa⟩ : ∃ q : Nat, (q : Int) = a1 % 8 := ⟨(a1 % 8).toNat, by omega⟩
  obtain ⟨addr, hat⟩ : ∃ addr : Nat, (addr : Int) = 1024 + a2 % 512 := ⟨(1024 + a2 % 512).toNat, by omega⟩
  obtain ⟨k, hka⟩ : ∃ k : Nat, (k : Int) = 1 + a3 % 40 := ⟨(1 + a3 % 40).toNat, by omega⟩
  have hp : p < 8 := by omega
  have hq : q < 8 := by omega
  have ha1 : 1024 ≤ addr := by omega
  have ha2 : addr < 1536 := by omega
  have hk1 : 1 ≤ k := by omega
  have hk2 : k ≤ 40 := by omega
  have f1 := eq0_get p q addr k 1 hp hq ha1 ha2 hk1 hk2
  have f0 := eq0_get p q addr k 0 hp hq ha1 ha2 hk1 hk2
  have f4 := eq0_get p q addr 8 4 hp hq ha1 ha2 (by decide) (by decide)
  have f2 := eq0_put p q addr k 2 hp hq ha1 ha2 hk1
  have hZ : (⟨(List.replicate k (0 : UInt8)).toArray⟩ : ByteArray).size ≤ 1099511627776 := by
    show (List.replicate k (0 : UInt8)).toArray.size ≤ _
    simp; omega
  refine perms_abs a0 a1 a2 a3 (p : Int) (q : Int) (addr : Int) (k : Int) ((addr + k : Nat) : Int) ((addr + 8 : Nat) : Int) (getE (twoP p q) 1 addr (k : Int)) (getE (twoP p q) 0 addr (k : Int)) (getE (twoP p q) 4 addr ((8 : Nat) : Int))
    (putE (twoP p q) 2 addr ⟨(List.replicate k (0 : UInt8)).toArray⟩) k (getS (twoP p q) 1 addr (k : Int)) (getS (twoP p q) 0 addr (k : Int)) (getS (twoP p q) 4 addr ((8 : Nat) : Int)) ⟨(List.replicate k (0 : UInt8)).toArray⟩ (upd A0 4 (some (newPg p))) (twoP p q)
    (Lib.hid fun w => ?_) (Lib.hid fun w => ?_) (Lib.hid fun w => ?_) (Lib.hid fun w => ?_)
    (Lib.hid fun b e n hn w h => ?_) (Lib.hid fun b e n hn w h => ?_) (Lib.hid fun b e n w h => ?_) (Lib.hid fun b e n w h => ?_) (Lib.hid fun b e n w h => ?_) (Lib.hid fun b e n w h => ?_)
    hpa.symm hqa.symm (by rw [IntKind.wrap_u32]; omega) hat.symm (by rw [IntKind.wrap_i64]; omega) (by rw [IntKind.wrap_i64]; omega) (by rw [IntKind.wrap_u32]; omega) (by omega) (by omega) (Lib.hid rfl) (Lib.hid ⟨hk1, hk2⟩) (Lib.hid rfl)
    (Lib.hid b0.1) (Lib.hid b1.1) (Lib.hid b2.1) (Lib.hid b3.1) w
  · rw [f1]; exact lmay_any p q addr (addr + k) 1 hp hq (by decide) w
  · rw [f0]; exact lmay_any p q addr (addr + k) 0 hp hq (by decide) w
  · rw [f4]; exact lmay_any p q addr (addr + 8) 4 hp hq (by decide) w
  · rw [f2]; exact lmay_any p q addr (addr + k) 2 hp hq (by decide) w
  · have := map_any b e n (by omega) A0 1024 p (by decide) (by omega) w h
    rw [two_e1 p hp, two_m1 p hp] at this
    exact this
  · have := map_any b e n (by omega) (upd A0 4 (some (newPg p))) 1280 q (by decide) (by omega) w h
    rw [two_e2 p q hq, two_m2 p q hq] at this
    exact this
  · exact read_any b e n (twoP p q) addr (k : Int) (by omega) w h
  · exact look_any b e n (twoP p q) addr (k : Int) (by omega) w h
  · exact fetch_any b e n (twoP p q) addr (by omega) w h
  · exact (write_any' b e n (twoP p q) addr _ (by omega) hZ w h).mono fun _ _ ⟨h1, h2, h3⟩ => ⟨h1, ⟨_, h2⟩, h3⟩

set_option maxRecDepth 100000 in
theorem perms_lifted (os : Os) (started : os.Started) (H : Type) (enc : TypeId × Value → H) :
    ReturnsInHanded {} Try.checked os 5 .any (Rows.spacePermsSpec.pre6 enc Try.prog Try.f5 Rows.spacePermsRow.domain false) (Rows.spacePermsSpec.post enc Try.prog Try.f5 false true false false) := by
  refine returnsInHanded_of_change_sized (C := Try.checked) own started (by kernel_rfl) Try.func5
    (ChangeSpec.witness6 (enc := enc) (C := Try.checked) false ⟨#[], #[.int .u8 0, .int .u8 0, .int .u16 0, .int .u8 0], []⟩ 8 (by kernel_rfl) (by kernel_rfl) (by kernel_rfl) (by kernel_rfl)) ?_
  intro W base args ds gs before hval0 hW hcnd hsz0 _
  have hval : ∀ (j : Nat) t v, Try.f5.params[j]? = some t → args[j]? = some v → Value.okWide Try.prog W .any base t v := hval0
  have hW' := hW
  obtain ⟨p, q, hA0, hV, rfl, hfz, hnd⟩ := hW
  have hA : DataW.TrodAll enc Try.prog W 0 (fun _ => true) true Try.f5.params.toList args.toList ds p := hA0
  rw [Try.params5] at hA hval
  obtain ⟨v0, vs0, d0, ds0, p0, q0, hargs, rfl, rfl, h0, r0⟩ := trodAll_cons hA
  obtain ⟨v1, vs1, d1, ds1, p1, q1, rfl, rfl, rfl, h1, r1⟩ := trodAll_cons r0
  obtain ⟨v2, vs2, d2, ds2, p2, q2, rfl, rfl, rfl, h2, r2⟩ := trodAll_cons r1
  obtain ⟨v3, vs3, d3, ds3, p3, q3, rfl, rfl, rfl, h3, r3⟩ := trodAll_cons r2
  obtain ⟨rfl, rfl, rfl⟩ := trodAll_nil r3
  obtain rfl : args = #[v0, v1, v2, v3] := by cases args; simp_all
  obtain ⟨rfl, rfl⟩ := trodVars_none hV
  obtain ⟨a0, rfl, rfl, rfl, w0⟩ := open_int Try.underlying5 (hval 0 5 v0 rfl rfl) h0
  obtain ⟨a1, rfl, rfl, rfl, w1⟩ := open_int Try.underlying5 (hval 1 5 v1 rfl rfl) h1
  obtain ⟨a2, rfl, rfl, rfl, w2⟩ := open_int Try.underlying49 (hval 2 49 v2 rfl rfl) h2
  obtain ⟨a3, rfl, rfl, rfl, w3⟩ := open_int Try.underlying5 (hval 3 5 v3 rfl rfl) h3
  clear hA0 hval0
  simp only [List.append_nil] at hW'
  have b0 := bounds_u8 w0
  have b1 := bounds_u8 w1
  have b2 := bounds_u16 w2
  have b3 := bounds_u8 w3
  refine (perms_walk a0 a1 a2 a3 (by omega) (by omega) (by omega) (by omega) W).mono fun e W' ⟨he, hb⟩ => ?_
  subst he
  exact ⟨_, rfl, law_post hW' rfl rfl rfl Try.underlying4 (fun sp => (trodAll_cons_mk (shut_int Try.underlying5 w0) (trodAll_cons_mk (shut_int Try.underlying5 w1) (trodAll_cons_mk (shut_int Try.underlying49 w2) (trodAll_cons_mk (shut_int Try.underlying5 w3) trodAll_mk0))))) hb⟩

theorem spacePerms_holds : Rows.SpacePermsSaid :=
  OpenClaim.holds_of_wide 5 Try.f5 rfl rfl rfl rfl rfl rfl rfl ⟨rfl, rfl, rfl, rfl, rfl⟩ rfl rfl rfl rfl rfl (by kernel_rfl) Try.func5 (by kernel_rfl)
    (of_decide_eq_true (by kernel_rfl)) (by unfold Func.isWrapper; first | (rw [if_pos (by decide +kernel)]; kernel_rfl) | (rw [if_neg (by decide +kernel)]; exact ⟨rfl, rfl⟩))
    (fun os started H enc _ => perms_lifted os started H enc)
#print axioms spacePerms_holds
end Go.Proofs.Ytfickpjecehboaa
