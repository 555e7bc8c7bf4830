/- The document's own Copy: a space of its own, with the same pages. (Written by mk_ei.py.) -/
import Derived.Test.YtfickpjecehboaaEH
import Derived.BigRegion
import Derived.Deep.RegionHeld3
import Derived.Laws.NewBlocks
set_option linter.unusedVariables false
namespace Go.Proofs.Ytfickpjecehboaa
open Go.RowKit Go.Maps

set_option maxHeartbeats 16000000 in
set_option maxRecDepth 100000 in
theorem rcopy_loop (B g c : Nat) (a : Option Addr) (L : List RP) (A : As) (w : World) (h : RefP w B g a c L A) (hBw : B ≤ w.heap.size) :
    Calls Try.prog 12 #[.pointer (some ⟨g, 0, none⟩)] w fun r w' => r = .returned (.pointer (some ⟨w.heap.size, 0, none⟩)) ∧ RefAt w' B w.heap.size A ∧ Below w.heap.size w w' := by
  have H := Lib.hid h
  have HLen := Lib.hid h.len
  obtain ⟨W0, hW0⟩ : ∃ W0, W0 = w.heap.size := ⟨_, rfl⟩
  have HW0 := Lib.hid hW0
  have HBW := Lib.hid hBw
  obtain ⟨N, hN⟩ : ∃ N, N = L.length := ⟨_, rfl⟩
  have HN := Lib.hid hN
  obtain ⟨i0, hi, hz0, hz1, hz2⟩ := info_parts info_prpage
  obtain ⟨i1, hj, hy0, hy1, hy2⟩ := info_parts info_u8
  have HC0 : Hid (CInv w (w.alloc (.cells #[.slice none 0 0] 31)) W0 W0 L A 0 (.slice none 0 0) []) := Lib.hid ⟨by rw [hW0]; exact (Below.refl _ _).alloc (Nat.le_refl _) _, by rw [hW0]; exact Blk.new w _ _, World.ownsRow_nil _ _ _ _, rfl, rfl, (fun e he => by cases he), List.Pairwise.nil⟩
  rw [← hW0]
  clear h hN hBw
  go_enter Try.func12, Try.ntmps12
  go_wp2_with fail
  simp only [← hW0]
  clear hW0
  go_loopw [4] (fun v wr => ∃ (i : Nat) (z : Value) (K : List RP), v = .int .i64 i ∧ Hid (i ≤ N) ∧ Hid (CInv w wr W0 W0 L A i z K)) (fun v _ => N - (intOf v).toNat)
  case atStart => exact ⟨0, _, _, rfl, Lib.hid (Nat.zero_le _), HC0⟩
  case round =>
    obtain ⟨i, z, K, rfl, HI, HC⟩ := hrel
    clear HC0
    have Hr : Hid (RefP wr B g a c L A) := Lib.hid (H.out.below (by rw [← HW0.out]; exact HC.out.low))
    have hc := Hr.out.cell0
    rw [← HN.out] at hc
    by_cases hlt : (i : Int) < (N : Int)
    · have hj2 : i < L.length := by have := HN.out; omega
      obtain ⟨k, rfl, hk⟩ := Hr.out.addr hj2
      obtain ⟨e, he⟩ : ∃ e, L.getD i RP.nought = e := ⟨_, rfl⟩
      have hm : e ∈ L := by rw [← he]; exact Hr.out.mem hj2
      obtain ⟨f, hA, hPf⟩ := Hr.out.page e hm
      obtain ⟨y, hy⟩ : ∃ y : Int, y = 256 * (e.i : Int) := ⟨_, rfl⟩
      obtain ⟨pm, hpm⟩ : ∃ pm : Int, pm = ((f 256).toNat : Int) := ⟨_, rfl⟩
      obtain ⟨bs, hbs⟩ : ∃ bs, bs = bcs f := ⟨_, rfl⟩
      obtain ⟨cs, hcs⟩ : ∃ cs, cs = K.map ptrP := ⟨_, rfl⟩
      obtain ⟨ep, hep⟩ : ∃ ep, ep = e.p := ⟨_, rfl⟩
      obtain ⟨eq, heq⟩ : ∃ eq, eq = e.q := ⟨_, rfl⟩
      obtain ⟨ec, hec⟩ : ∃ ec, ec = e.c := ⟨_, rfl⟩
      have hAt : ∀ w', Below W0 w w' → RefP w' B g (some ⟨k, 0, none⟩) c L A := fun w' h => H.out.below (by rw [← HW0.out]; exact h)
      have HS : Hid (∀ w', Below W0 w w' → (fun w' => w'.cell? ⟨g, 0, none⟩ = some (.slice (some ⟨k, 0, none⟩) N c) ∧ w'.cell? ⟨k, i, none⟩ = some (.pointer (some ⟨ep, 0, none⟩)) ∧ w'.cell? ⟨ep, 0, none⟩ = some (.int .u32 y) ∧ w'.cell? ⟨ep, 1, none⟩ = some (.int .u8 pm) ∧ w'.cell? ⟨ep, 2, none⟩ = some (.slice (some ⟨eq, 0, none⟩) 256 ec)) w') := Lib.hid fun w' h => by
        have h1 := hAt w' h
        obtain ⟨f2, q1, q2⟩ := h1.page e hm
        have hf : f2 = f := by rw [hA] at q1; exact (Option.some.inj q1).symm
        subst hf
        obtain ⟨k2, q3, q4⟩ := h1.addr hj2
        simp only [Option.some.injEq, Addr.mk.injEq] at q3
        obtain ⟨rfl, _⟩ := q3
        have q5 := q4 i hj2
        rw [he] at q5
        have q6 := h1.cell0
        rw [← HN.out] at q6
        refine ⟨q6, by rw [hep]; exact q5, by rw [hep, q2.head.cell, hy]; rfl, by rw [hep, q2.head.cell, hpm]; rfl, by rw [hep, heq, hec, q2.head.cell]; rfl⟩
      have HNews : Hid (∀ w', Below W0 w w' → ∀ j u, bs[j]? = some u → w'.cell? ((⟨eq, 0, none⟩ : Addr).add j) = some u) := Lib.hid fun w' h j u hu => by
        obtain ⟨f2, q1, q2⟩ := (hAt w' h).page e hm
        have hf : f2 = f := by rw [hA] at q1; exact (Option.some.inj q1).symm
        subst hf
        have hjl : j < (bcs f2).length := by
          rw [← hbs]; exact (List.getElem?_eq_some_iff.1 hu).1
        rw [Addr.add_mid, Nat.zero_add, heq, q2.bytes.cell, List.getElem?_append_left hjl, ← hbs]
        exact hu
      have HBS : Hid (bs.length = 256 * 1 ∧ ∀ u ∈ bs, u.oneCell' = true) := Lib.hid ⟨by rw [hbs, bcs_length], fun u hu => by rw [hbs] at hu; obtain ⟨x, _, rfl⟩ := List.mem_map.1 hu; rfl⟩
      have HCd := HC.out.drew
      have HSt : Hid (∀ (wa wd : World) (q' c' : Nat) (v : Value) (ROW : Obj), wa.ownsRow wr.drew.heap.size 5 1 (.slice (some ⟨q', 0, none⟩) 256 c') 256 bs → wr.drew.grownBy wa none → wd.ownsRow W0 66 1 v (i + 1) (cs ++ [.pointer (some ⟨wa.heap.size, 0, none⟩)]) →
          ((wa.alloc (.cells #[.int .u32 y, .int .u8 pm, .slice (some ⟨q', 0, none⟩) 256 c'] 68)).alloc ROW).grownBy wd z.ownBlock → ∃ K', CInv w (wd.setCell ⟨W0, 0, none⟩ v) W0 W0 L A (i + 1) v K') := Lib.hid fun wa wd q' c' v ROW h1 h2 h3 h4 => by
        rw [hbs] at h1
        rw [hcs] at h3
        rw [hy, hpm] at h4
        exact HCd.step (by rw [HW0.out]; exact HCd.low.size) (Nat.le_refl _) hj2 he hA hPf.lt h1 h2 h3 h4
      have HBq0 := Lib.hid HCd.low
      have HWq0 : Hid (W0 ≤ wr.drew.heap.size) := Lib.hid (by rw [HW0.out]; exact HCd.low.size)
      have HO0 : Hid (wr.drew.ownsRow W0 66 1 z i cs) := Lib.hid (by rw [hcs]; exact HCd.own)
      have HG0 := Lib.hid HCd.head
      have HI2 : Hid (i + 1 ≤ N) := Lib.hid (by omega)
      have K3 : Hid (i + 1 ≤ maxLen) := Lib.hid (by unfold maxLen; have := HN.out; have := HLen.out; omega)
      have K4 : Hid ((i + 1) * 8 ≤ 140737488355328) := Lib.hid (by have := HN.out; have := HLen.out; omega)
      have m3 : IntKind.i64.wrap ((i : Int) + 1) = (i : Int) + 1 := by rw [IntKind.wrap_i64]; have := HN.out; have := HLen.out; omega
      have i1' : (0 : Int) ≤ (i : Int) := by omega
      clear hk hA hPf he hm hy hpm hbs hcs hep heq hec hAt HCd HC hj2
      go_wp2_with fail
      refine wp_region_held_drew (S := fun w' => w'.cell? ⟨g, 0, none⟩ = some (.slice (some ⟨k, 0, none⟩) N c) ∧ w'.cell? ⟨k, i, none⟩ = some (.pointer (some ⟨ep, 0, none⟩)) ∧ w'.cell? ⟨ep, 0, none⟩ = some (.int .u32 y) ∧ w'.cell? ⟨ep, 1, none⟩ = some (.int .u8 pm) ∧ w'.cell? ⟨ep, 2, none⟩ = some (.slice (some ⟨eq, 0, none⟩) 256 ec)) (by kernel_rfl) (HS.out _ HBq0.out) (fun hHeld => ?_)
      clear hc
      obtain ⟨wq, hwq⟩ : ∃ wq, wq = wr.drew := ⟨_, rfl⟩
      have HBq : Hid (Below W0 w wq) := by rw [hwq]; exact HBq0
      have HWq : Hid (W0 ≤ wq.heap.size) := by rw [hwq]; exact HWq0
      have HO : Hid (wq.ownsRow W0 66 1 z i cs) := by rw [hwq]; exact HO0
      have HG : Hid (Blk wq W0 31 [z]) := by rw [hwq]; exact HG0
      rw [← hwq] at hHeld HSt ⊢
      have czq : wq.cell? ⟨W0, 0, none⟩ = some z := by rw [HG.out.cell]; rfl
      clear hwq HBq0 HWq0 HO0 HG0
      refine wpAnyH_take (i := 0) (v := .pointer (some ⟨W0, 0, none⟩)) rfl (by kernel_rfl) (by kernel_rfl) (by kernel_rfl) (fun _ _ _ h => h) (Or.inl ⟨by rfl, fun wx hSw => by (try dsimp only at hSw); go_simp⟩) (by assumption) ?_
      try simp only [Act.put, List.setIfInBounds_toArray, List.set_cons_zero, List.set_cons_succ, List.getElem_toArray, List.getElem_cons_zero]
      refine wpAnyH_take (i := 1) (v := .pointer (some ⟨W0, 0, none⟩)) rfl (by kernel_rfl) (by kernel_rfl) (by kernel_rfl) (fun _ _ _ h => h) (Or.inl ⟨by rfl, fun wx hSw => by (try dsimp only at hSw); go_simp⟩) (by assumption) ?_
      try simp only [Act.put, List.setIfInBounds_toArray, List.set_cons_zero, List.set_cons_succ, List.getElem_toArray, List.getElem_cons_succ, List.getElem_cons_zero]
      refine wpAnyH_take (i := 2) (v := .pointer (some ⟨W0, 0, none⟩)) rfl (by kernel_rfl) (by kernel_rfl) (by kernel_rfl) (fun _ _ _ h => h) (Or.inl ⟨by rfl, fun wx hSw => by (try dsimp only at hSw); go_simp⟩) (by assumption) ?_
      try simp only [Act.put, List.setIfInBounds_toArray, List.set_cons_zero, List.set_cons_succ, List.getElem_toArray, List.getElem_cons_succ, List.getElem_cons_zero]
      refine wpAnyH_take (i := 3) (v := .pointer (some ⟨W0, 0, none⟩)) rfl (by kernel_rfl) (by kernel_rfl) (by kernel_rfl) (fun _ _ _ h => h) (Or.inl ⟨by rfl, fun wx hSw => by (try dsimp only at hSw); go_simp⟩) (by assumption) ?_
      try simp only [Act.put, List.setIfInBounds_toArray, List.set_cons_zero, List.set_cons_succ, List.getElem_toArray, List.getElem_cons_succ, List.getElem_cons_zero]
      refine wpAnyH_take (i := 5) (v := .pointer (some ⟨g, 0, none⟩)) rfl (by kernel_rfl) (by kernel_rfl) (by kernel_rfl) (fun _ _ _ h => h) (Or.inl ⟨by rfl, fun wx hSw => by (try dsimp only at hSw); go_simp⟩) (by assumption) ?_
      try simp only [Act.put, List.setIfInBounds_toArray, List.set_cons_zero, List.set_cons_succ, List.getElem_toArray, List.getElem_cons_succ, List.getElem_cons_zero]
      refine wpAnyH_take (i := 6) (v := .pointer (some ⟨g, 0, none⟩)) rfl (by kernel_rfl) (by kernel_rfl) (by kernel_rfl) (fun _ _ _ h => h) (Or.inl ⟨by rfl, fun wx hSw => by (try dsimp only at hSw); go_simp⟩) (by assumption) ?_
      try simp only [Act.put, List.setIfInBounds_toArray, List.set_cons_zero, List.set_cons_succ, List.getElem_toArray, List.getElem_cons_succ, List.getElem_cons_zero]
      refine wpAnyH_take (i := 7) (v := .pointer (some ⟨g, 0, none⟩)) rfl (by kernel_rfl) (by kernel_rfl) (by kernel_rfl) (fun _ _ _ h => h) (Or.inl ⟨by rfl, fun wx hSw => by (try dsimp only at hSw); go_simp⟩) (by assumption) ?_
      try simp only [Act.put, List.setIfInBounds_toArray, List.set_cons_zero, List.set_cons_succ, List.getElem_toArray, List.getElem_cons_succ, List.getElem_cons_zero]
      refine wpAnyH_take (i := 8) (v := .slice (some ⟨k, 0, none⟩) N c) rfl (by kernel_rfl) (by kernel_rfl) (by kernel_rfl) (fun _ _ _ h => h) (Or.inl ⟨by rfl, fun wx hSw => by (try dsimp only at hSw); go_simp⟩) (by assumption) ?_
      try simp only [Act.put, List.setIfInBounds_toArray, List.set_cons_zero, List.set_cons_succ, List.getElem_toArray, List.getElem_cons_succ, List.getElem_cons_zero]
      refine wpAnyH_take (i := 9) (v := .int .i64 (i : Int)) rfl (by kernel_rfl) (by kernel_rfl) (by kernel_rfl) (fun _ _ _ h => h) (Or.inl ⟨by rfl, fun wx hSw => by (try dsimp only at hSw); go_simp⟩) (by assumption) ?_
      try simp only [Act.put, List.setIfInBounds_toArray, List.set_cons_zero, List.set_cons_succ, List.getElem_toArray, List.getElem_cons_succ, List.getElem_cons_zero]
      refine wpAnyH_take (i := 10) (v := .pointer (some ⟨k, i, none⟩)) rfl (by kernel_rfl) (by kernel_rfl) (by kernel_rfl) (fun _ _ _ h => h) (Or.inl ⟨by rfl, fun wx hSw => by (try dsimp only at hSw); go_simp⟩) (by assumption) ?_
      try simp only [Act.put, List.setIfInBounds_toArray, List.set_cons_zero, List.set_cons_succ, List.getElem_toArray, List.getElem_cons_succ, List.getElem_cons_zero]
      refine wpAnyH_take (i := 11) (v := .pointer (some ⟨ep, 0, none⟩)) rfl (by kernel_rfl) (by kernel_rfl) (by kernel_rfl) (fun _ _ _ h => h) (Or.inl ⟨by rfl, fun wx hSw => by (try dsimp only at hSw); go_simp⟩) (by assumption) ?_
      try simp only [Act.put, List.setIfInBounds_toArray, List.set_cons_zero, List.set_cons_succ, List.getElem_toArray, List.getElem_cons_succ, List.getElem_cons_zero]
      refine wpAnyH_take (i := 12) (v := .pointer (some ⟨ep, 0, none⟩)) rfl (by kernel_rfl) (by kernel_rfl) (by kernel_rfl) (fun _ _ _ h => h) (Or.inl ⟨by rfl, fun wx hSw => by (try dsimp only at hSw); go_simp⟩) (by assumption) ?_
      try simp only [Act.put, List.setIfInBounds_toArray, List.set_cons_zero, List.set_cons_succ, List.getElem_toArray, List.getElem_cons_succ, List.getElem_cons_zero]
      refine wpAnyH_take (i := 13) (v := .pointer (some ⟨ep, 0, none⟩)) rfl (by kernel_rfl) (by kernel_rfl) (by kernel_rfl) (fun _ _ _ h => h) (Or.inl ⟨by rfl, fun wx hSw => by (try dsimp only at hSw); go_simp⟩) (by assumption) ?_
      try simp only [Act.put, List.setIfInBounds_toArray, List.set_cons_zero, List.set_cons_succ, List.getElem_toArray, List.getElem_cons_succ, List.getElem_cons_zero]
      refine wpAnyH_take (i := 14) (v := .int .u32 y) rfl (by kernel_rfl) (by kernel_rfl) (by kernel_rfl) (fun _ _ _ h => h) (Or.inl ⟨by rfl, fun wx hSw => by (try dsimp only at hSw); go_simp⟩) (by assumption) ?_
      try simp only [Act.put, List.setIfInBounds_toArray, List.set_cons_zero, List.set_cons_succ, List.getElem_toArray, List.getElem_cons_succ, List.getElem_cons_zero]
      refine wpAnyH_take (i := 15) (v := .pointer (some ⟨g, 0, none⟩)) rfl (by kernel_rfl) (by kernel_rfl) (by kernel_rfl) (fun _ _ _ h => h) (Or.inl ⟨by rfl, fun wx hSw => by (try dsimp only at hSw); go_simp⟩) (by assumption) ?_
      try simp only [Act.put, List.setIfInBounds_toArray, List.set_cons_zero, List.set_cons_succ, List.getElem_toArray, List.getElem_cons_succ, List.getElem_cons_zero]
      refine wpAnyH_take (i := 16) (v := .pointer (some ⟨g, 0, none⟩)) rfl (by kernel_rfl) (by kernel_rfl) (by kernel_rfl) (fun _ _ _ h => h) (Or.inl ⟨by rfl, fun wx hSw => by (try dsimp only at hSw); go_simp⟩) (by assumption) ?_
      try simp only [Act.put, List.setIfInBounds_toArray, List.set_cons_zero, List.set_cons_succ, List.getElem_toArray, List.getElem_cons_succ, List.getElem_cons_zero]
      refine wpAnyH_take (i := 17) (v := .pointer (some ⟨g, 0, none⟩)) rfl (by kernel_rfl) (by kernel_rfl) (by kernel_rfl) (fun _ _ _ h => h) (Or.inl ⟨by rfl, fun wx hSw => by (try dsimp only at hSw); go_simp⟩) (by assumption) ?_
      try simp only [Act.put, List.setIfInBounds_toArray, List.set_cons_zero, List.set_cons_succ, List.getElem_toArray, List.getElem_cons_succ, List.getElem_cons_zero]
      refine wpAnyH_take (i := 18) (v := .slice (some ⟨k, 0, none⟩) N c) rfl (by kernel_rfl) (by kernel_rfl) (by kernel_rfl) (fun _ _ _ h => h) (Or.inl ⟨by rfl, fun wx hSw => by (try dsimp only at hSw); go_simp⟩) (by assumption) ?_
      try simp only [Act.put, List.setIfInBounds_toArray, List.set_cons_zero, List.set_cons_succ, List.getElem_toArray, List.getElem_cons_succ, List.getElem_cons_zero]
      refine wpAnyH_take (i := 19) (v := .int .i64 (i : Int)) rfl (by kernel_rfl) (by kernel_rfl) (by kernel_rfl) (fun _ _ _ h => h) (Or.inl ⟨by rfl, fun wx hSw => by (try dsimp only at hSw); go_simp⟩) (by assumption) ?_
      try simp only [Act.put, List.setIfInBounds_toArray, List.set_cons_zero, List.set_cons_succ, List.getElem_toArray, List.getElem_cons_succ, List.getElem_cons_zero]
      refine wpAnyH_take (i := 20) (v := .pointer (some ⟨k, i, none⟩)) rfl (by kernel_rfl) (by kernel_rfl) (by kernel_rfl) (fun _ _ _ h => h) (Or.inl ⟨by rfl, fun wx hSw => by (try dsimp only at hSw); go_simp⟩) (by assumption) ?_
      try simp only [Act.put, List.setIfInBounds_toArray, List.set_cons_zero, List.set_cons_succ, List.getElem_toArray, List.getElem_cons_succ, List.getElem_cons_zero]
      refine wpAnyH_take (i := 21) (v := .pointer (some ⟨ep, 0, none⟩)) rfl (by kernel_rfl) (by kernel_rfl) (by kernel_rfl) (fun _ _ _ h => h) (Or.inl ⟨by rfl, fun wx hSw => by (try dsimp only at hSw); go_simp⟩) (by assumption) ?_
      try simp only [Act.put, List.setIfInBounds_toArray, List.set_cons_zero, List.set_cons_succ, List.getElem_toArray, List.getElem_cons_succ, List.getElem_cons_zero]
      refine wpAnyH_take (i := 22) (v := .pointer (some ⟨ep, 0, none⟩)) rfl (by kernel_rfl) (by kernel_rfl) (by kernel_rfl) (fun _ _ _ h => h) (Or.inl ⟨by rfl, fun wx hSw => by (try dsimp only at hSw); go_simp⟩) (by assumption) ?_
      try simp only [Act.put, List.setIfInBounds_toArray, List.set_cons_zero, List.set_cons_succ, List.getElem_toArray, List.getElem_cons_succ, List.getElem_cons_zero]
      refine wpAnyH_take (i := 23) (v := .pointer (some ⟨ep, 1, none⟩)) rfl (by kernel_rfl) (by kernel_rfl) (by kernel_rfl) (fun _ _ _ h => h) (Or.inl ⟨by rfl, fun wx hSw => by (try dsimp only at hSw); go_simp⟩) (by assumption) ?_
      try simp only [Act.put, List.setIfInBounds_toArray, List.set_cons_zero, List.set_cons_succ, List.getElem_toArray, List.getElem_cons_succ, List.getElem_cons_zero]
      refine wpAnyH_take (i := 24) (v := .int .u8 pm) rfl (by kernel_rfl) (by kernel_rfl) (by kernel_rfl) (fun _ _ _ h => h) (Or.inl ⟨by rfl, fun wx hSw => by (try dsimp only at hSw); go_simp⟩) (by assumption) ?_
      try simp only [Act.put, List.setIfInBounds_toArray, List.set_cons_zero, List.set_cons_succ, List.getElem_toArray, List.getElem_cons_succ, List.getElem_cons_zero]
      refine wpAnyH_take (i := 25) (v := .pointer (some ⟨g, 0, none⟩)) rfl (by kernel_rfl) (by kernel_rfl) (by kernel_rfl) (fun _ _ _ h => h) (Or.inl ⟨by rfl, fun wx hSw => by (try dsimp only at hSw); go_simp⟩) (by assumption) ?_
      try simp only [Act.put, List.setIfInBounds_toArray, List.set_cons_zero, List.set_cons_succ, List.getElem_toArray, List.getElem_cons_succ, List.getElem_cons_zero]
      refine wpAnyH_take (i := 26) (v := .pointer (some ⟨g, 0, none⟩)) rfl (by kernel_rfl) (by kernel_rfl) (by kernel_rfl) (fun _ _ _ h => h) (Or.inl ⟨by rfl, fun wx hSw => by (try dsimp only at hSw); go_simp⟩) (by assumption) ?_
      try simp only [Act.put, List.setIfInBounds_toArray, List.set_cons_zero, List.set_cons_succ, List.getElem_toArray, List.getElem_cons_succ, List.getElem_cons_zero]
      refine wpAnyH_take (i := 27) (v := .pointer (some ⟨g, 0, none⟩)) rfl (by kernel_rfl) (by kernel_rfl) (by kernel_rfl) (fun _ _ _ h => h) (Or.inl ⟨by rfl, fun wx hSw => by (try dsimp only at hSw); go_simp⟩) (by assumption) ?_
      try simp only [Act.put, List.setIfInBounds_toArray, List.set_cons_zero, List.set_cons_succ, List.getElem_toArray, List.getElem_cons_succ, List.getElem_cons_zero]
      refine wpAnyH_take (i := 28) (v := .slice (some ⟨k, 0, none⟩) N c) rfl (by kernel_rfl) (by kernel_rfl) (by kernel_rfl) (fun _ _ _ h => h) (Or.inl ⟨by rfl, fun wx hSw => by (try dsimp only at hSw); go_simp⟩) (by assumption) ?_
      try simp only [Act.put, List.setIfInBounds_toArray, List.set_cons_zero, List.set_cons_succ, List.getElem_toArray, List.getElem_cons_succ, List.getElem_cons_zero]
      refine wpAnyH_take (i := 29) (v := .int .i64 (i : Int)) rfl (by kernel_rfl) (by kernel_rfl) (by kernel_rfl) (fun _ _ _ h => h) (Or.inl ⟨by rfl, fun wx hSw => by (try dsimp only at hSw); go_simp⟩) (by assumption) ?_
      try simp only [Act.put, List.setIfInBounds_toArray, List.set_cons_zero, List.set_cons_succ, List.getElem_toArray, List.getElem_cons_succ, List.getElem_cons_zero]
      refine wpAnyH_take (i := 30) (v := .pointer (some ⟨k, i, none⟩)) rfl (by kernel_rfl) (by kernel_rfl) (by kernel_rfl) (fun _ _ _ h => h) (Or.inl ⟨by rfl, fun wx hSw => by (try dsimp only at hSw); go_simp⟩) (by assumption) ?_
      try simp only [Act.put, List.setIfInBounds_toArray, List.set_cons_zero, List.set_cons_succ, List.getElem_toArray, List.getElem_cons_succ, List.getElem_cons_zero]
      refine wpAnyH_take (i := 31) (v := .pointer (some ⟨ep, 0, none⟩)) rfl (by kernel_rfl) (by kernel_rfl) (by kernel_rfl) (fun _ _ _ h => h) (Or.inl ⟨by rfl, fun wx hSw => by (try dsimp only at hSw); go_simp⟩) (by assumption) ?_
      try simp only [Act.put, List.setIfInBounds_toArray, List.set_cons_zero, List.set_cons_succ, List.getElem_toArray, List.getElem_cons_succ, List.getElem_cons_zero]
      refine wpAnyH_take (i := 32) (v := .pointer (some ⟨ep, 0, none⟩)) rfl (by kernel_rfl) (by kernel_rfl) (by kernel_rfl) (fun _ _ _ h => h) (Or.inl ⟨by rfl, fun wx hSw => by (try dsimp only at hSw); go_simp⟩) (by assumption) ?_
      try simp only [Act.put, List.setIfInBounds_toArray, List.set_cons_zero, List.set_cons_succ, List.getElem_toArray, List.getElem_cons_succ, List.getElem_cons_zero]
      refine wpAnyH_take (i := 33) (v := .pointer (some ⟨ep, 2, none⟩)) rfl (by kernel_rfl) (by kernel_rfl) (by kernel_rfl) (fun _ _ _ h => h) (Or.inl ⟨by rfl, fun wx hSw => by (try dsimp only at hSw); go_simp⟩) (by assumption) ?_
      try simp only [Act.put, List.setIfInBounds_toArray, List.set_cons_zero, List.set_cons_succ, List.getElem_toArray, List.getElem_cons_succ, List.getElem_cons_zero]
      refine wpAnyH_take (i := 34) (v := .slice (some ⟨eq, 0, none⟩) 256 ec) rfl (by kernel_rfl) (by kernel_rfl) (by kernel_rfl) (fun _ _ _ h => h) (Or.inl ⟨by rfl, fun wx hSw => by (try dsimp only at hSw); go_simp⟩) (by assumption) ?_
      try simp only [Act.put, List.setIfInBounds_toArray, List.set_cons_zero, List.set_cons_succ, List.getElem_toArray, List.getElem_cons_succ, List.getElem_cons_zero]
      refine wpAnyH_ready (rs := [4, 35]) (by kernel_rfl) (by simp) ?_
      refine AllReadyH.cons (o := _) rfl (fun K' hK => ?_) (AllReadyH.cons (o := _) rfl (fun K' hK => ?_) AllReadyH.nil)
      · skip
        go_simp
        refine hK.out _ _ (HS.out _ HBq.out) (fun hHeld2 => ?_)
        clear hK K'
        try simp only [Act.put, List.setIfInBounds_toArray, List.set_cons_zero, List.set_cons_succ, List.getElem_toArray, List.getElem_cons_succ, List.getElem_cons_zero]
        refine wpAnyH_ready (rs := [35]) (by kernel_rfl) (by simp) ?_
        refine AllReadyH.cons (o := _) rfl (fun K' hK => ?_) AllReadyH.nil
        rw [if_pos (by rfl)]
        refine wp_append_own _ (.const (.slice none 0 0)) (.tmp 50) 52 rfl wq.heap.size 5 i1 (.int .u8 0) 1 1 Try.underlying52 hj hy0 hy1 hy2 rfl (by decide) (.slice none 0 0) 0 [] rfl (World.ownsRow_nil _ _ _ _) ⟨eq, 0, none⟩ 256 ec bs rfl HBS.out.1 (HNews.out _ HBq.out) HBS.out.2 (by decide) (by decide) (Nat.le_refl _) ?_
        intro v51 wa h51 g51 _
        replace h51 : wa.ownsRow wq.heap.size 5 1 v51 256 bs := by simpa using h51
        obtain ⟨q', c', rfl⟩ := ownsRow_succ (k := 255) h51
        have H51 := Lib.hid (And.intro h51 (show wq.grownBy wa none from g51))
        have HBa : Hid (Below W0 w wa) := Lib.hid (HBq.out.grown (show wq.grownBy wa none from g51) HWq.out (fun k hk => by cases hk))
        have HWa : Hid (W0 ≤ wa.heap.size) := Lib.hid (by rw [HW0.out]; exact HBa.out.size)
        have HOa := Lib.hid (own_none HO.out H51.out.2)
        have HGa : Hid (Blk wa W0 31 [z]) := Lib.hid (HG.out.grown H51.out.2 (by simp))
        have HB37 : Hid (Below W0 w (wa.alloc (.cells #[.int .u32 y, .int .u8 pm, .slice (some ⟨q', 0, none⟩) 256 c'] 68))) := Lib.hid (HBa.out.alloc HWa.out _)
        have HB38 : Hid (Below W0 w ((wa.alloc (.cells #[.int .u32 y, .int .u8 pm, .slice (some ⟨q', 0, none⟩) 256 c'] 68)).alloc (.cells #[.pointer (some ⟨wa.heap.size, 0, none⟩)] 66))) := Lib.hid (HB37.out.alloc (by have := HWa.out; simp; omega) _)
        have cza : wa.cell? ⟨W0, 0, none⟩ = some z := by rw [HGa.out.cell]; rfl
        have czb : (wa.alloc (.cells #[.int .u32 y, .int .u8 pm, .slice (some ⟨q', 0, none⟩) 256 c'] 68)).cell? ⟨W0, 0, none⟩ = some z := by rw [(HGa.out.alloc _).cell]; rfl
        have czc : ((wa.alloc (.cells #[.int .u32 y, .int .u8 pm, .slice (some ⟨q', 0, none⟩) 256 c'] 68)).alloc (.cells #[.pointer (some ⟨wa.heap.size, 0, none⟩)] 66)).cell? ⟨W0, 0, none⟩ = some z := by rw [((HGa.out.alloc _).alloc _).cell]; rfl
        clear h51 g51
        refine hK.out _ _ (HS.out _ HBa.out) (fun hHeld2 => ?_)
        clear hK K'
        try simp only [Act.put, List.setIfInBounds_toArray, List.set_cons_zero, List.set_cons_succ, List.getElem_toArray, List.getElem_cons_succ, List.getElem_cons_zero]
        refine wpAnyH_ready (rs := [36]) (by kernel_rfl) (by simp) ?_
        refine AllReadyH.cons (o := _) rfl (fun K' hK => ?_) AllReadyH.nil
        go_simp
        refine hK.out _ _ (HS.out _ HBa.out) (fun hHeld2 => ?_)
        clear hK K'
        try simp only [Act.put, List.setIfInBounds_toArray, List.set_cons_zero, List.set_cons_succ, List.getElem_toArray, List.getElem_cons_succ, List.getElem_cons_zero]
        refine wpAnyH_ready (rs := [37]) (by kernel_rfl) (by simp) ?_
        refine AllReadyH.cons (o := _) rfl (fun K' hK => ?_) AllReadyH.nil
        go_simp
        refine hK.out _ _ (HS.out _ HB37.out) (fun hHeld2 => ?_)
        clear hK K'
        try simp only [Act.put, List.setIfInBounds_toArray, List.set_cons_zero, List.set_cons_succ, List.getElem_toArray, List.getElem_cons_succ, List.getElem_cons_zero]
        refine wpAnyH_ready (rs := [38]) (by kernel_rfl) (by simp) ?_
        refine AllReadyH.cons (o := _) rfl (fun K' hK => ?_) AllReadyH.nil
        go_simp
        refine hK.out _ _ (HS.out _ HB38.out) (fun hHeld2 => ?_)
        clear hK K'
        try simp only [Act.put, List.setIfInBounds_toArray, List.set_cons_zero, List.set_cons_succ, List.getElem_toArray, List.getElem_cons_succ, List.getElem_cons_zero]
        refine wpAnyH_ready (rs := [39]) (by kernel_rfl) (by simp) ?_
        refine AllReadyH.cons (o := _) rfl (fun K' hK => ?_) AllReadyH.nil
        rw [if_pos (by rfl)]
        refine wp_append_own _ (.tmp 20) (.tmp 54) 29 rfl W0 66 i0 (.pointer none) 1 8 Try.underlying29 hi hz0 hz1 hz2 rfl (by decide) z i cs rfl ((HOa.out.alloc _).alloc _) ⟨wa.heap.size + 1, 0, none⟩ 1 1 [.pointer (some ⟨wa.heap.size, 0, none⟩)] rfl rfl (by have h := cell_one_new (wa.alloc (.cells #[.int .u32 y, .int .u8 pm, .slice (some ⟨q', 0, none⟩) 256 c'] 68)) (.pointer (some ⟨wa.heap.size, 0, none⟩)) 66; simpa using h) (by simp [Value.oneCell']) K3.out K4.out (by have := HWa.out; simp; omega) ?_
        intro v55 wd hown hgrow _
        obtain ⟨g2, cap2, rfl⟩ := ownsRow_succ hown
        have HBd : Hid (Below W0 w wd) := Lib.hid (HB38.out.grown hgrow (by have := HWa.out; simp; omega) (fun k hk => (HOa.out.lt k hk).1))
        have HGd : Hid (Blk wd W0 31 [z]) := Lib.hid (own_keep ((HOa.out.alloc _).alloc _) hgrow ((HGa.out.alloc _).alloc _) (by decide))
        have HCI : Hid (∃ K', CInv w (wd.setCell ⟨W0, 0, none⟩ (.slice (some ⟨g2, 0, none⟩) (i + 1) cap2)) W0 W0 L A (i + 1) (.slice (some ⟨g2, 0, none⟩) (i + 1) cap2) K') := Lib.hid (HSt.out _ _ _ _ _ _ H51.out.1 H51.out.2 hown hgrow)
        have HBe : Hid (Below W0 w (wd.setCell ⟨W0, 0, none⟩ (.slice (some ⟨g2, 0, none⟩) (i + 1) cap2))) := Lib.hid (HBd.out.setCell (p := ⟨W0, 0, none⟩) (Nat.le_refl _) _)
        have czd : wd.cell? ⟨W0, 0, none⟩ = some z := by rw [HGd.out.cell]; rfl
        have czf : wd.frozen? ⟨W0, 0, none⟩ = false := HGd.out.frozen 0
        clear hown hgrow cza czb czc
        refine hK.out _ _ (HS.out _ HBd.out) (fun hHeld2 => ?_)
        clear hK K'
        try simp only [Act.put, List.setIfInBounds_toArray, List.set_cons_zero, List.set_cons_succ, List.getElem_toArray, List.getElem_cons_succ, List.getElem_cons_zero]
        refine wpAnyH_take (i := 40) (v := .pointer (some ⟨W0, 0, none⟩)) rfl (by kernel_rfl) (by kernel_rfl) (by kernel_rfl) (fun _ _ _ h => h) (Or.inl ⟨by rfl, fun wx hSw => by (try dsimp only at hSw); go_simp⟩) (by assumption) ?_
        try simp only [Act.put, List.setIfInBounds_toArray, List.set_cons_zero, List.set_cons_succ, List.getElem_toArray, List.getElem_cons_succ, List.getElem_cons_zero]
        refine wpAnyH_take (i := 41) (v := .pointer (some ⟨W0, 0, none⟩)) rfl (by kernel_rfl) (by kernel_rfl) (by kernel_rfl) (fun _ _ _ h => h) (Or.inl ⟨by rfl, fun wx hSw => by (try dsimp only at hSw); go_simp⟩) (by assumption) ?_
        try simp only [Act.put, List.setIfInBounds_toArray, List.set_cons_zero, List.set_cons_succ, List.getElem_toArray, List.getElem_cons_succ, List.getElem_cons_zero]
        refine wpAnyH_ready (rs := [42]) (by kernel_rfl) (by simp) ?_
        refine AllReadyH.cons (o := _) rfl (fun K' hK => ?_) AllReadyH.nil
        go_simp
        refine hK.out _ _ (HS.out _ HBe.out) (fun hHeld2 => ?_)
        clear hK K'
        try simp only [Act.put, List.setIfInBounds_toArray, List.set_cons_zero, List.set_cons_succ, List.getElem_toArray, List.getElem_cons_succ, List.getElem_cons_zero]
        refine wpAnyH_done (by kernel_rfl) ?_ _
        obtain ⟨K2, hK2⟩ := HCI.out
        have HC2 := Lib.hid hK2
        clear hK2 czd czf HCI HGd HBd H51
        go_wp2
        go_roundw
        case rel => exact ⟨i + 1, _, K2, by go_num, HI2, HC2⟩
        case measure => simp [intOf]; have := HI2.out; omega
      · skip
        rw [if_pos (by rfl)]
        refine wp_append_own _ (.const (.slice none 0 0)) (.tmp 50) 52 rfl wq.heap.size 5 i1 (.int .u8 0) 1 1 Try.underlying52 hj hy0 hy1 hy2 rfl (by decide) (.slice none 0 0) 0 [] rfl (World.ownsRow_nil _ _ _ _) ⟨eq, 0, none⟩ 256 ec bs rfl HBS.out.1 (HNews.out _ HBq.out) HBS.out.2 (by decide) (by decide) (Nat.le_refl _) ?_
        intro v51 wa h51 g51 _
        replace h51 : wa.ownsRow wq.heap.size 5 1 v51 256 bs := by simpa using h51
        obtain ⟨q', c', rfl⟩ := ownsRow_succ (k := 255) h51
        have H51 := Lib.hid (And.intro h51 (show wq.grownBy wa none from g51))
        have HBa : Hid (Below W0 w wa) := Lib.hid (HBq.out.grown (show wq.grownBy wa none from g51) HWq.out (fun k hk => by cases hk))
        have HWa : Hid (W0 ≤ wa.heap.size) := Lib.hid (by rw [HW0.out]; exact HBa.out.size)
        have HOa := Lib.hid (own_none HO.out H51.out.2)
        have HGa : Hid (Blk wa W0 31 [z]) := Lib.hid (HG.out.grown H51.out.2 (by simp))
        have HB37 : Hid (Below W0 w (wa.alloc (.cells #[.int .u32 y, .int .u8 pm, .slice (some ⟨q', 0, none⟩) 256 c'] 68))) := Lib.hid (HBa.out.alloc HWa.out _)
        have HB38 : Hid (Below W0 w ((wa.alloc (.cells #[.int .u32 y, .int .u8 pm, .slice (some ⟨q', 0, none⟩) 256 c'] 68)).alloc (.cells #[.pointer (some ⟨wa.heap.size, 0, none⟩)] 66))) := Lib.hid (HB37.out.alloc (by have := HWa.out; simp; omega) _)
        have cza : wa.cell? ⟨W0, 0, none⟩ = some z := by rw [HGa.out.cell]; rfl
        have czb : (wa.alloc (.cells #[.int .u32 y, .int .u8 pm, .slice (some ⟨q', 0, none⟩) 256 c'] 68)).cell? ⟨W0, 0, none⟩ = some z := by rw [(HGa.out.alloc _).cell]; rfl
        have czc : ((wa.alloc (.cells #[.int .u32 y, .int .u8 pm, .slice (some ⟨q', 0, none⟩) 256 c'] 68)).alloc (.cells #[.pointer (some ⟨wa.heap.size, 0, none⟩)] 66)).cell? ⟨W0, 0, none⟩ = some z := by rw [((HGa.out.alloc _).alloc _).cell]; rfl
        clear h51 g51
        refine hK.out _ _ (HS.out _ HBa.out) (fun hHeld2 => ?_)
        clear hK K'
        try simp only [Act.put, List.setIfInBounds_toArray, List.set_cons_zero, List.set_cons_succ, List.getElem_toArray, List.getElem_cons_succ, List.getElem_cons_zero]
        refine wpAnyH_ready (rs := [4, 36]) (by kernel_rfl) (by simp) ?_
        refine AllReadyH.cons (o := _) rfl (fun K' hK => ?_) (AllReadyH.cons (o := _) rfl (fun K' hK => ?_) AllReadyH.nil)
        · skip
          go_simp
          refine hK.out _ _ (HS.out _ HBa.out) (fun hHeld2 => ?_)
          clear hK K'
          try simp only [Act.put, List.setIfInBounds_toArray, List.set_cons_zero, List.set_cons_succ, List.getElem_toArray, List.getElem_cons_succ, List.getElem_cons_zero]
          refine wpAnyH_ready (rs := [36]) (by kernel_rfl) (by simp) ?_
          refine AllReadyH.cons (o := _) rfl (fun K' hK => ?_) AllReadyH.nil
          go_simp
          refine hK.out _ _ (HS.out _ HBa.out) (fun hHeld2 => ?_)
          clear hK K'
          try simp only [Act.put, List.setIfInBounds_toArray, List.set_cons_zero, List.set_cons_succ, List.getElem_toArray, List.getElem_cons_succ, List.getElem_cons_zero]
          refine wpAnyH_ready (rs := [37]) (by kernel_rfl) (by simp) ?_
          refine AllReadyH.cons (o := _) rfl (fun K' hK => ?_) AllReadyH.nil
          go_simp
          refine hK.out _ _ (HS.out _ HB37.out) (fun hHeld2 => ?_)
          clear hK K'
          try simp only [Act.put, List.setIfInBounds_toArray, List.set_cons_zero, List.set_cons_succ, List.getElem_toArray, List.getElem_cons_succ, List.getElem_cons_zero]
          refine wpAnyH_ready (rs := [38]) (by kernel_rfl) (by simp) ?_
          refine AllReadyH.cons (o := _) rfl (fun K' hK => ?_) AllReadyH.nil
          go_simp
          refine hK.out _ _ (HS.out _ HB38.out) (fun hHeld2 => ?_)
          clear hK K'
          try simp only [Act.put, List.setIfInBounds_toArray, List.set_cons_zero, List.set_cons_succ, List.getElem_toArray, List.getElem_cons_succ, List.getElem_cons_zero]
          refine wpAnyH_ready (rs := [39]) (by kernel_rfl) (by simp) ?_
          refine AllReadyH.cons (o := _) rfl (fun K' hK => ?_) AllReadyH.nil
          rw [if_pos (by rfl)]
          refine wp_append_own _ (.tmp 20) (.tmp 54) 29 rfl W0 66 i0 (.pointer none) 1 8 Try.underlying29 hi hz0 hz1 hz2 rfl (by decide) z i cs rfl ((HOa.out.alloc _).alloc _) ⟨wa.heap.size + 1, 0, none⟩ 1 1 [.pointer (some ⟨wa.heap.size, 0, none⟩)] rfl rfl (by have h := cell_one_new (wa.alloc (.cells #[.int .u32 y, .int .u8 pm, .slice (some ⟨q', 0, none⟩) 256 c'] 68)) (.pointer (some ⟨wa.heap.size, 0, none⟩)) 66; simpa using h) (by simp [Value.oneCell']) K3.out K4.out (by have := HWa.out; simp; omega) ?_
          intro v55 wd hown hgrow _
          obtain ⟨g2, cap2, rfl⟩ := ownsRow_succ hown
          have HBd : Hid (Below W0 w wd) := Lib.hid (HB38.out.grown hgrow (by have := HWa.out; simp; omega) (fun k hk => (HOa.out.lt k hk).1))
          have HGd : Hid (Blk wd W0 31 [z]) := Lib.hid (own_keep ((HOa.out.alloc _).alloc _) hgrow ((HGa.out.alloc _).alloc _) (by decide))
          have HCI : Hid (∃ K', CInv w (wd.setCell ⟨W0, 0, none⟩ (.slice (some ⟨g2, 0, none⟩) (i + 1) cap2)) W0 W0 L A (i + 1) (.slice (some ⟨g2, 0, none⟩) (i + 1) cap2) K') := Lib.hid (HSt.out _ _ _ _ _ _ H51.out.1 H51.out.2 hown hgrow)
          have HBe : Hid (Below W0 w (wd.setCell ⟨W0, 0, none⟩ (.slice (some ⟨g2, 0, none⟩) (i + 1) cap2))) := Lib.hid (HBd.out.setCell (p := ⟨W0, 0, none⟩) (Nat.le_refl _) _)
          have czd : wd.cell? ⟨W0, 0, none⟩ = some z := by rw [HGd.out.cell]; rfl
          have czf : wd.frozen? ⟨W0, 0, none⟩ = false := HGd.out.frozen 0
          clear hown hgrow cza czb czc
          refine hK.out _ _ (HS.out _ HBd.out) (fun hHeld2 => ?_)
          clear hK K'
          try simp only [Act.put, List.setIfInBounds_toArray, List.set_cons_zero, List.set_cons_succ, List.getElem_toArray, List.getElem_cons_succ, List.getElem_cons_zero]
          refine wpAnyH_take (i := 40) (v := .pointer (some ⟨W0, 0, none⟩)) rfl (by kernel_rfl) (by kernel_rfl) (by kernel_rfl) (fun _ _ _ h => h) (Or.inl ⟨by rfl, fun wx hSw => by (try dsimp only at hSw); go_simp⟩) (by assumption) ?_
          try simp only [Act.put, List.setIfInBounds_toArray, List.set_cons_zero, List.set_cons_succ, List.getElem_toArray, List.getElem_cons_succ, List.getElem_cons_zero]
          refine wpAnyH_take (i := 41) (v := .pointer (some ⟨W0, 0, none⟩)) rfl (by kernel_rfl) (by kernel_rfl) (by kernel_rfl) (fun _ _ _ h => h) (Or.inl ⟨by rfl, fun wx hSw => by (try dsimp only at hSw); go_simp⟩) (by assumption) ?_
          try simp only [Act.put, List.setIfInBounds_toArray, List.set_cons_zero, List.set_cons_succ, List.getElem_toArray, List.getElem_cons_succ, List.getElem_cons_zero]
          refine wpAnyH_ready (rs := [42]) (by kernel_rfl) (by simp) ?_
          refine AllReadyH.cons (o := _) rfl (fun K' hK => ?_) AllReadyH.nil
          go_simp
          refine hK.out _ _ (HS.out _ HBe.out) (fun hHeld2 => ?_)
          clear hK K'
          try simp only [Act.put, List.setIfInBounds_toArray, List.set_cons_zero, List.set_cons_succ, List.getElem_toArray, List.getElem_cons_succ, List.getElem_cons_zero]
          refine wpAnyH_done (by kernel_rfl) ?_ _
          obtain ⟨K2, hK2⟩ := HCI.out
          have HC2 := Lib.hid hK2
          clear hK2 czd czf HCI HGd HBd H51
          go_wp2
          go_roundw
          case rel => exact ⟨i + 1, _, K2, by go_num, HI2, HC2⟩
          case measure => simp [intOf]; have := HI2.out; omega
        · skip
          go_simp
          refine hK.out _ _ (HS.out _ HBa.out) (fun hHeld2 => ?_)
          clear hK K'
          try simp only [Act.put, List.setIfInBounds_toArray, List.set_cons_zero, List.set_cons_succ, List.getElem_toArray, List.getElem_cons_succ, List.getElem_cons_zero]
          refine wpAnyH_ready (rs := [4, 37]) (by kernel_rfl) (by simp) ?_
          refine AllReadyH.cons (o := _) rfl (fun K' hK => ?_) (AllReadyH.cons (o := _) rfl (fun K' hK => ?_) AllReadyH.nil)
          · skip
            go_simp
            refine hK.out _ _ (HS.out _ HBa.out) (fun hHeld2 => ?_)
            clear hK K'
            try simp only [Act.put, List.setIfInBounds_toArray, List.set_cons_zero, List.set_cons_succ, List.getElem_toArray, List.getElem_cons_succ, List.getElem_cons_zero]
            refine wpAnyH_ready (rs := [37]) (by kernel_rfl) (by simp) ?_
            refine AllReadyH.cons (o := _) rfl (fun K' hK => ?_) AllReadyH.nil
            go_simp
            refine hK.out _ _ (HS.out _ HB37.out) (fun hHeld2 => ?_)
            clear hK K'
            try simp only [Act.put, List.setIfInBounds_toArray, List.set_cons_zero, List.set_cons_succ, List.getElem_toArray, List.getElem_cons_succ, List.getElem_cons_zero]
            refine wpAnyH_ready (rs := [38]) (by kernel_rfl) (by simp) ?_
            refine AllReadyH.cons (o := _) rfl (fun K' hK => ?_) AllReadyH.nil
            go_simp
            refine hK.out _ _ (HS.out _ HB38.out) (fun hHeld2 => ?_)
            clear hK K'
            try simp only [Act.put, List.setIfInBounds_toArray, List.set_cons_zero, List.set_cons_succ, List.getElem_toArray, List.getElem_cons_succ, List.getElem_cons_zero]
            refine wpAnyH_ready (rs := [39]) (by kernel_rfl) (by simp) ?_
            refine AllReadyH.cons (o := _) rfl (fun K' hK => ?_) AllReadyH.nil
            rw [if_pos (by rfl)]
            refine wp_append_own _ (.tmp 20) (.tmp 54) 29 rfl W0 66 i0 (.pointer none) 1 8 Try.underlying29 hi hz0 hz1 hz2 rfl (by decide) z i cs rfl ((HOa.out.alloc _).alloc _) ⟨wa.heap.size + 1, 0, none⟩ 1 1 [.pointer (some ⟨wa.heap.size, 0, none⟩)] rfl rfl (by have h := cell_one_new (wa.alloc (.cells #[.int .u32 y, .int .u8 pm, .slice (some ⟨q', 0, none⟩) 256 c'] 68)) (.pointer (some ⟨wa.heap.size, 0, none⟩)) 66; simpa using h) (by simp [Value.oneCell']) K3.out K4.out (by have := HWa.out; simp; omega) ?_
            intro v55 wd hown hgrow _
            obtain ⟨g2, cap2, rfl⟩ := ownsRow_succ hown
            have HBd : Hid (Below W0 w wd) := Lib.hid (HB38.out.grown hgrow (by have := HWa.out; simp; omega) (fun k hk => (HOa.out.lt k hk).1))
            have HGd : Hid (Blk wd W0 31 [z]) := Lib.hid (own_keep ((HOa.out.alloc _).alloc _) hgrow ((HGa.out.alloc _).alloc _) (by decide))
            have HCI : Hid (∃ K', CInv w (wd.setCell ⟨W0, 0, none⟩ (.slice (some ⟨g2, 0, none⟩) (i + 1) cap2)) W0 W0 L A (i + 1) (.slice (some ⟨g2, 0, none⟩) (i + 1) cap2) K') := Lib.hid (HSt.out _ _ _ _ _ _ H51.out.1 H51.out.2 hown hgrow)
            have HBe : Hid (Below W0 w (wd.setCell ⟨W0, 0, none⟩ (.slice (some ⟨g2, 0, none⟩) (i + 1) cap2))) := Lib.hid (HBd.out.setCell (p := ⟨W0, 0, none⟩) (Nat.le_refl _) _)
            have czd : wd.cell? ⟨W0, 0, none⟩ = some z := by rw [HGd.out.cell]; rfl
            have czf : wd.frozen? ⟨W0, 0, none⟩ = false := HGd.out.frozen 0
            clear hown hgrow cza czb czc
            refine hK.out _ _ (HS.out _ HBd.out) (fun hHeld2 => ?_)
            clear hK K'
            try simp only [Act.put, List.setIfInBounds_toArray, List.set_cons_zero, List.set_cons_succ, List.getElem_toArray, List.getElem_cons_succ, List.getElem_cons_zero]
            refine wpAnyH_take (i := 40) (v := .pointer (some ⟨W0, 0, none⟩)) rfl (by kernel_rfl) (by kernel_rfl) (by kernel_rfl) (fun _ _ _ h => h) (Or.inl ⟨by rfl, fun wx hSw => by (try dsimp only at hSw); go_simp⟩) (by assumption) ?_
            try simp only [Act.put, List.setIfInBounds_toArray, List.set_cons_zero, List.set_cons_succ, List.getElem_toArray, List.getElem_cons_succ, List.getElem_cons_zero]
            refine wpAnyH_take (i := 41) (v := .pointer (some ⟨W0, 0, none⟩)) rfl (by kernel_rfl) (by kernel_rfl) (by kernel_rfl) (fun _ _ _ h => h) (Or.inl ⟨by rfl, fun wx hSw => by (try dsimp only at hSw); go_simp⟩) (by assumption) ?_
            try simp only [Act.put, List.setIfInBounds_toArray, List.set_cons_zero, List.set_cons_succ, List.getElem_toArray, List.getElem_cons_succ, List.getElem_cons_zero]
            refine wpAnyH_ready (rs := [42]) (by kernel_rfl) (by simp) ?_
            refine AllReadyH.cons (o := _) rfl (fun K' hK => ?_) AllReadyH.nil
            go_simp
            refine hK.out _ _ (HS.out _ HBe.out) (fun hHeld2 => ?_)
            clear hK K'
            try simp only [Act.put, List.setIfInBounds_toArray, List.set_cons_zero, List.set_cons_succ, List.getElem_toArray, List.getElem_cons_succ, List.getElem_cons_zero]
            refine wpAnyH_done (by kernel_rfl) ?_ _
            obtain ⟨K2, hK2⟩ := HCI.out
            have HC2 := Lib.hid hK2
            clear hK2 czd czf HCI HGd HBd H51
            go_wp2
            go_roundw
            case rel => exact ⟨i + 1, _, K2, by go_num, HI2, HC2⟩
            case measure => simp [intOf]; have := HI2.out; omega
          · skip
            go_simp
            refine hK.out _ _ (HS.out _ HB37.out) (fun hHeld2 => ?_)
            clear hK K'
            try simp only [Act.put, List.setIfInBounds_toArray, List.set_cons_zero, List.set_cons_succ, List.getElem_toArray, List.getElem_cons_succ, List.getElem_cons_zero]
            refine wpAnyH_ready (rs := [4, 38]) (by kernel_rfl) (by simp) ?_
            refine AllReadyH.cons (o := _) rfl (fun K' hK => ?_) (AllReadyH.cons (o := _) rfl (fun K' hK => ?_) AllReadyH.nil)
            · skip
              go_simp
              refine hK.out _ _ (HS.out _ HB37.out) (fun hHeld2 => ?_)
              clear hK K'
              try simp only [Act.put, List.setIfInBounds_toArray, List.set_cons_zero, List.set_cons_succ, List.getElem_toArray, List.getElem_cons_succ, List.getElem_cons_zero]
              refine wpAnyH_ready (rs := [38]) (by kernel_rfl) (by simp) ?_
              refine AllReadyH.cons (o := _) rfl (fun K' hK => ?_) AllReadyH.nil
              go_simp
              refine hK.out _ _ (HS.out _ HB38.out) (fun hHeld2 => ?_)
              clear hK K'
              try simp only [Act.put, List.setIfInBounds_toArray, List.set_cons_zero, List.set_cons_succ, List.getElem_toArray, List.getElem_cons_succ, List.getElem_cons_zero]
              refine wpAnyH_ready (rs := [39]) (by kernel_rfl) (by simp) ?_
              refine AllReadyH.cons (o := _) rfl (fun K' hK => ?_) AllReadyH.nil
              rw [if_pos (by rfl)]
              refine wp_append_own _ (.tmp 20) (.tmp 54) 29 rfl W0 66 i0 (.pointer none) 1 8 Try.underlying29 hi hz0 hz1 hz2 rfl (by decide) z i cs rfl ((HOa.out.alloc _).alloc _) ⟨wa.heap.size + 1, 0, none⟩ 1 1 [.pointer (some ⟨wa.heap.size, 0, none⟩)] rfl rfl (by have h := cell_one_new (wa.alloc (.cells #[.int .u32 y, .int .u8 pm, .slice (some ⟨q', 0, none⟩) 256 c'] 68)) (.pointer (some ⟨wa.heap.size, 0, none⟩)) 66; simpa using h) (by simp [Value.oneCell']) K3.out K4.out (by have := HWa.out; simp; omega) ?_
              intro v55 wd hown hgrow _
              obtain ⟨g2, cap2, rfl⟩ := ownsRow_succ hown
              have HBd : Hid (Below W0 w wd) := Lib.hid (HB38.out.grown hgrow (by have := HWa.out; simp; omega) (fun k hk => (HOa.out.lt k hk).1))
              have HGd : Hid (Blk wd W0 31 [z]) := Lib.hid (own_keep ((HOa.out.alloc _).alloc _) hgrow ((HGa.out.alloc _).alloc _) (by decide))
              have HCI : Hid (∃ K', CInv w (wd.setCell ⟨W0, 0, none⟩ (.slice (some ⟨g2, 0, none⟩) (i + 1) cap2)) W0 W0 L A (i + 1) (.slice (some ⟨g2, 0, none⟩) (i + 1) cap2) K') := Lib.hid (HSt.out _ _ _ _ _ _ H51.out.1 H51.out.2 hown hgrow)
              have HBe : Hid (Below W0 w (wd.setCell ⟨W0, 0, none⟩ (.slice (some ⟨g2, 0, none⟩) (i + 1) cap2))) := Lib.hid (HBd.out.setCell (p := ⟨W0, 0, none⟩) (Nat.le_refl _) _)
              have czd : wd.cell? ⟨W0, 0, none⟩ = some z := by rw [HGd.out.cell]; rfl
              have czf : wd.frozen? ⟨W0, 0, none⟩ = false := HGd.out.frozen 0
              clear hown hgrow cza czb czc
              refine hK.out _ _ (HS.out _ HBd.out) (fun hHeld2 => ?_)
              clear hK K'
              try simp only [Act.put, List.setIfInBounds_toArray, List.set_cons_zero, List.set_cons_succ, List.getElem_toArray, List.getElem_cons_succ, List.getElem_cons_zero]
              refine wpAnyH_take (i := 40) (v := .pointer (some ⟨W0, 0, none⟩)) rfl (by kernel_rfl) (by kernel_rfl) (by kernel_rfl) (fun _ _ _ h => h) (Or.inl ⟨by rfl, fun wx hSw => by (try dsimp only at hSw); go_simp⟩) (by assumption) ?_
              try simp only [Act.put, List.setIfInBounds_toArray, List.set_cons_zero, List.set_cons_succ, List.getElem_toArray, List.getElem_cons_succ, List.getElem_cons_zero]
              refine wpAnyH_take (i := 41) (v := .pointer (some ⟨W0, 0, none⟩)) rfl (by kernel_rfl) (by kernel_rfl) (by kernel_rfl) (fun _ _ _ h => h) (Or.inl ⟨by rfl, fun wx hSw => by (try dsimp only at hSw); go_simp⟩) (by assumption) ?_
              try simp only [Act.put, List.setIfInBounds_toArray, List.set_cons_zero, List.set_cons_succ, List.getElem_toArray, List.getElem_cons_succ, List.getElem_cons_zero]
              refine wpAnyH_ready (rs := [42]) (by kernel_rfl) (by simp) ?_
              refine AllReadyH.cons (o := _) rfl (fun K' hK => ?_) AllReadyH.nil
              go_simp
              refine hK.out _ _ (HS.out _ HBe.out) (fun hHeld2 => ?_)
              clear hK K'
              try simp only [Act.put, List.setIfInBounds_toArray, List.set_cons_zero, List.set_cons_succ, List.getElem_toArray, List.getElem_cons_succ, List.getElem_cons_zero]
              refine wpAnyH_done (by kernel_rfl) ?_ _
              obtain ⟨K2, hK2⟩ := HCI.out
              have HC2 := Lib.hid hK2
              clear hK2 czd czf HCI HGd HBd H51
              go_wp2
              go_roundw
              case rel => exact ⟨i + 1, _, K2, by go_num, HI2, HC2⟩
              case measure => simp [intOf]; have := HI2.out; omega
            · skip
              go_simp
              refine hK.out _ _ (HS.out _ HB38.out) (fun hHeld2 => ?_)
              clear hK K'
              try simp only [Act.put, List.setIfInBounds_toArray, List.set_cons_zero, List.set_cons_succ, List.getElem_toArray, List.getElem_cons_succ, List.getElem_cons_zero]
              refine wpAnyH_ready (rs := [4]) (by kernel_rfl) (by simp) ?_
              refine AllReadyH.cons (o := _) rfl (fun K' hK => ?_) AllReadyH.nil
              go_simp
              refine hK.out _ _ (HS.out _ HB38.out) (fun hHeld2 => ?_)
              clear hK K'
              try simp only [Act.put, List.setIfInBounds_toArray, List.set_cons_zero, List.set_cons_succ, List.getElem_toArray, List.getElem_cons_succ, List.getElem_cons_zero]
              refine wpAnyH_ready (rs := [39]) (by kernel_rfl) (by simp) ?_
              refine AllReadyH.cons (o := _) rfl (fun K' hK => ?_) AllReadyH.nil
              rw [if_pos (by rfl)]
              refine wp_append_own _ (.tmp 20) (.tmp 54) 29 rfl W0 66 i0 (.pointer none) 1 8 Try.underlying29 hi hz0 hz1 hz2 rfl (by decide) z i cs rfl ((HOa.out.alloc _).alloc _) ⟨wa.heap.size + 1, 0, none⟩ 1 1 [.pointer (some ⟨wa.heap.size, 0, none⟩)] rfl rfl (by have h := cell_one_new (wa.alloc (.cells #[.int .u32 y, .int .u8 pm, .slice (some ⟨q', 0, none⟩) 256 c'] 68)) (.pointer (some ⟨wa.heap.size, 0, none⟩)) 66; simpa using h) (by simp [Value.oneCell']) K3.out K4.out (by have := HWa.out; simp; omega) ?_
              intro v55 wd hown hgrow _
              obtain ⟨g2, cap2, rfl⟩ := ownsRow_succ hown
              have HBd : Hid (Below W0 w wd) := Lib.hid (HB38.out.grown hgrow (by have := HWa.out; simp; omega) (fun k hk => (HOa.out.lt k hk).1))
              have HGd : Hid (Blk wd W0 31 [z]) := Lib.hid (own_keep ((HOa.out.alloc _).alloc _) hgrow ((HGa.out.alloc _).alloc _) (by decide))
              have HCI : Hid (∃ K', CInv w (wd.setCell ⟨W0, 0, none⟩ (.slice (some ⟨g2, 0, none⟩) (i + 1) cap2)) W0 W0 L A (i + 1) (.slice (some ⟨g2, 0, none⟩) (i + 1) cap2) K') := Lib.hid (HSt.out _ _ _ _ _ _ H51.out.1 H51.out.2 hown hgrow)
              have HBe : Hid (Below W0 w (wd.setCell ⟨W0, 0, none⟩ (.slice (some ⟨g2, 0, none⟩) (i + 1) cap2))) := Lib.hid (HBd.out.setCell (p := ⟨W0, 0, none⟩) (Nat.le_refl _) _)
              have czd : wd.cell? ⟨W0, 0, none⟩ = some z := by rw [HGd.out.cell]; rfl
              have czf : wd.frozen? ⟨W0, 0, none⟩ = false := HGd.out.frozen 0
              clear hown hgrow cza czb czc
              refine hK.out _ _ (HS.out _ HBd.out) (fun hHeld2 => ?_)
              clear hK K'
              try simp only [Act.put, List.setIfInBounds_toArray, List.set_cons_zero, List.set_cons_succ, List.getElem_toArray, List.getElem_cons_succ, List.getElem_cons_zero]
              refine wpAnyH_take (i := 40) (v := .pointer (some ⟨W0, 0, none⟩)) rfl (by kernel_rfl) (by kernel_rfl) (by kernel_rfl) (fun _ _ _ h => h) (Or.inl ⟨by rfl, fun wx hSw => by (try dsimp only at hSw); go_simp⟩) (by assumption) ?_
              try simp only [Act.put, List.setIfInBounds_toArray, List.set_cons_zero, List.set_cons_succ, List.getElem_toArray, List.getElem_cons_succ, List.getElem_cons_zero]
              refine wpAnyH_take (i := 41) (v := .pointer (some ⟨W0, 0, none⟩)) rfl (by kernel_rfl) (by kernel_rfl) (by kernel_rfl) (fun _ _ _ h => h) (Or.inl ⟨by rfl, fun wx hSw => by (try dsimp only at hSw); go_simp⟩) (by assumption) ?_
              try simp only [Act.put, List.setIfInBounds_toArray, List.set_cons_zero, List.set_cons_succ, List.getElem_toArray, List.getElem_cons_succ, List.getElem_cons_zero]
              refine wpAnyH_ready (rs := [42]) (by kernel_rfl) (by simp) ?_
              refine AllReadyH.cons (o := _) rfl (fun K' hK => ?_) AllReadyH.nil
              go_simp
              refine hK.out _ _ (HS.out _ HBe.out) (fun hHeld2 => ?_)
              clear hK K'
              try simp only [Act.put, List.setIfInBounds_toArray, List.set_cons_zero, List.set_cons_succ, List.getElem_toArray, List.getElem_cons_succ, List.getElem_cons_zero]
              refine wpAnyH_done (by kernel_rfl) ?_ _
              obtain ⟨K2, hK2⟩ := HCI.out
              have HC2 := Lib.hid hK2
              clear hK2 czd czf HCI HGd HBd H51
              go_wp2
              go_roundw
              case rel => exact ⟨i + 1, _, K2, by go_num, HI2, HC2⟩
              case measure => simp [intOf]; have := HI2.out; omega
    · have hiN : i = L.length := by have := HI.out; have := HN.out; omega
      have HD : Hid (RefAt wr B W0 A) := Lib.hid (by
        have h := HC.out
        rw [hiN] at h
        exact h.done H.out (by rw [HW0.out]; exact HBW.out) (Nat.le_refl _))
      clear hiN
      go_wp2
      go_ret
      exact ⟨rfl, HD.out, HC.out.low⟩
theorem rcopy_any (B g : Nat) (A : As) (w : World) (h : RefAt w B g A) (hBw : B ≤ w.heap.size) :
    Calls Try.prog 12 #[.pointer (some ⟨g, 0, none⟩)] w fun r w' => r = .returned (.pointer (some ⟨w.heap.size, 0, none⟩)) ∧ RefAt w' B w.heap.size A ∧ Below w.heap.size w w' := by
  obtain ⟨a, c, L, h⟩ := h
  exact rcopy_loop B g c a L A w h hBw
end Go.Proofs.Ytfickpjecehboaa
