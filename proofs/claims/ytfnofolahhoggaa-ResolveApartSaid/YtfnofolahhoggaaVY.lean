/- The document's CopyAll: objects anew, each with symbols of its own. -/
import Derived.Test.YtfnofolahhoggaaUI
import Derived.Test.YtfnofolahhoggaaRG
set_option linter.unusedVariables false
set_option linter.unusedSimpArgs false
namespace Go.Proofs.Ytfnofolahhoggaa
open Go Go.RowKit Go.Maps Oj Rv

theorem infoObj : (Try.prog.info? 43).map (fun i => (i.zero, i.size, i.bytes)) = some (some (.agg #[.string ⟨#[]⟩, .slice none 0 0]), 2, 40) := by kernel_rfl
/-- k objects of a call's own: the row, each one's symbols, and that these lie apart. -/
structure CpA (w : World) (B : Nat) (l : List Ob) (k : Nat) (v : Value) (S : Nat → Value) (R N : Nat → Nat → Value) : Prop where
  row : w.ownsRow B 43 2 v k (flat (fun j => obCells (l.getD j Ob.nought) (S j)) k)
  each : ∀ j, j < k → Cp8 w B (symsN l j) (symsN l j).length (S j) (R j) (N j)
  apart : ∀ i j, i < k → j < i → (S i).ownBlock = none ∨ (S i).ownBlock ≠ (S j).ownBlock
theorem Cp8.kept {w w' : World} {B : Nat} {l : List Sy} {k : Nat} {v : Value} {R N : Nat → Value} {row : Option Nat} (h : Cp8 w B l k v R N) (hg : w.grownBy w' row) (hv : v.ownBlock = none ∨ v.ownBlock ≠ row)
    (hr : ∀ j, j < k → (R j).ownBlock = none ∨ (R j).ownBlock ≠ row) (hn : ∀ j, j < k → (N j).ownBlock = none ∨ (N j).ownBlock ≠ row) : Cp8 w' B l k v R N :=
  ⟨h.row.kept hg hv, fun j hj => World.ownsRow.kept (h.rels j hj) hg (hr j hj), fun j hj => World.ownsRow.kept (h.notes j hj) hg (hn j hj)⟩
/-- While a row of another type grows. -/
theorem Cp8.other {w w' : World} {B B' : Nat} {l : List Sy} {k : Nat} {v v' : Value} {R N : Nat → Value} {e : TypeId} {z n : Nat} {xs : List Value} (h : Cp8 w B l k v R N) (ho : w.ownsRow B' e z v' n xs) (h1 : 50 ≠ e) (h2 : 54 ≠ e) (h3 : 81 ≠ e) (hg : w.grownBy w' v'.ownBlock) : Cp8 w' B l k v R N :=
  h.kept hg (row_apart h.row ho h1) (fun j hj => row_apart (h.rels j hj) ho h2) (fun j hj => row_apart (h.notes j hj) ho h3)
theorem row_baseR {w : World} {B B' : Nat} {e : TypeId} {z : Nat} {v : Value} {n : Nat} {xs : List Value} (h : w.ownsRow B e z v n xs) (hB : B' ≤ B) : w.ownsRow B' e z v n xs := by
  refine ⟨h.1, ?_⟩
  rcases h.2 with hn | ⟨g, cap, cur, hv, hb, rest⟩
  · exact .inl hn
  · exact .inr ⟨g, cap, cur, hv, Nat.le_trans hB hb, rest⟩
theorem Cp8.base {w : World} {B B' : Nat} {l : List Sy} {k : Nat} {v : Value} {R N : Nat → Value} (h : Cp8 w B l k v R N) (hB : B' ≤ B) : Cp8 w B' l k v R N :=
  ⟨row_baseR h.row hB, fun j hj => row_baseR (h.rels j hj) hB, fun j hj => row_baseR (h.notes j hj) hB⟩
theorem CpA.below {w w' : World} {B : Nat} {l : List Ob} {k : Nat} {v : Value} {S : Nat → Value} {R N : Nat → Nat → Value} (h : CpA w B l k v S R N) (hb : Below w.heap.size w w') : CpA w' B l k v S R N :=
  ⟨row_below h.row hb, fun j hj => (h.each j hj).below hb, h.apart⟩
theorem CpA.obs {w : World} {B : Nat} {l : List Ob} {v : Value} {S : Nat → Value} {R N : Nat → Nat → Value} (h : CpA w B l l.length v S R N) : ObsAt w v l :=
  ⟨S, slC_of_row (fun j _ => rfl) h.row, fun j hj => (h.each j hj).syms⟩
theorem ob_one (x : Ob) (a : Option Addr) (n c : Nat) : ∀ u ∈ obCells x (.slice a n c), u.oneCell' = true := by
  intro u hu; simp only [obCells, List.mem_cons, List.not_mem_nil, or_false] at hu; rcases hu with rfl | rfl <;> rfl
theorem new_ob (W : World) (a b : Value) : ∀ j u, [a, b][j]? = some u → (W.alloc (.cells #[a, b] 43)).cell? ((⟨W.heap.size, 0, none⟩ : Addr).add j) = some u :=
  World.news_of_block (cs := #[a, b]) (t := 43) (fr := (0, 0)) (heap_alloc_new W _)
theorem own_lt {w : World} {B : Nat} {e : TypeId} {z : Nat} {v : Value} {n : Nat} {xs : List Value} (h : w.ownsRow B e z v n xs) {g : Nat} (hg : v.ownBlock = some g) : B ≤ g ∧ g < w.heap.size := World.ownsRow.lt h g hg

set_option maxHeartbeats 8000000 in
set_option maxRecDepth 100000 in
theorem rcopyAll_any (v : Value) (l : List Ob) (hf : obsFit l) (w : World) (hA : ObsAt w v l) : Calls Try.prog 8 #[v] w fun e w' => ∃ v' S R N, e = .returned v' ∧ CpA w' w.heap.size l l.length v' S R N ∧ Below w.heap.size w w' := by
  have HI := Lib.hid (fun (v : Value) (x : Ob) (hx : obFits x) W (hq : ObAt W v x) => rcopy_own v x hx W hq)
  obtain ⟨iO, hiO, hzO, hsO, hbO⟩ := info_parts infoObj
  have HO := Lib.hid (And.intro hiO (And.intro hzO (And.intro hsO hbO)))
  obtain ⟨a, c, rfl, h2⟩ := hA.one
  obtain ⟨n, hn⟩ : ∃ n, n = l.length := ⟨_, rfl⟩
  have hni : (n : Int) ≤ 3518437208883 := by have := hf.1; omega
  rw [← hn] at h2 ⊢
  have H2 := Lib.hid h2
  have HN := Lib.hid hn
  have HF := Lib.hid hf.2
  have HC0 : Hid (CpA w w.heap.size l 0 (.slice none 0 0) (fun _ => undef) (fun _ _ => undef) (fun _ _ => undef)) := Lib.hid ⟨World.ownsRow_nil _ _ _ _, fun j hj => absurd hj (by omega), fun i j hi => absurd hi (by omega)⟩
  have HB0 := Lib.hid (Below.refl w.heap.size w)
  clear hn h2 hf hA hiO hzO hsO hbO
  go_enter Try.func8, Try.ntmps8
  go_wp2_with fail
  go_loopw [3, 4] (fun t3 i wr => ∃ (k : Nat) (S : Nat → Value) (R N : Nat → Nat → Value), (k : Int) ≤ n ∧ i = .int .i64 k ∧ Hid (CpA wr w.heap.size l k t3 S R N) ∧ Hid (Below w.heap.size w wr)) (fun _ i _ => n - (intOf i).toNat)
  case atStart => exact ⟨0, _, _, _, by omega, rfl, HC0, HB0⟩
  case round =>
    clear HC0 HB0
    obtain ⟨k, S, R, N, hk, rfl, HC, HB⟩ := hrel
    by_cases hlt : k < n
    · obtain ⟨b, o, rfl, hbl, hcl⟩ := H2.out (by omega)
      obtain ⟨vk, c0, c1, hS⟩ := hcl k hlt
      have hd : decide (k < n) = true := decide_eq_true hlt
      have HCp := Lib.hid (fun W (hq : Below w.heap.size w W) => HI.out (.agg #[.string (tx (l.getD k Ob.nought).name), vk]) (l.getD k Ob.nought) (HF.out k (by rw [← HN.out]; exact hlt)) W ⟨vk, rfl, hS.below hq⟩)
      obtain ⟨M, hM⟩ : ∃ M, M = tx (l.getD k Ob.nought).name := ⟨_, rfl⟩
      rw [← hM] at HCp c0
      obtain ⟨ak, nk, ck, hvk⟩ : ∃ ak nk ck, vk = .slice ak nk ck := by
        obtain ⟨ak, ck, h9, _⟩ := hS.get
        exact ⟨ak, _, ck, h9⟩
      subst hvk
      have hbr : b < wr.heap.size := Nat.lt_of_lt_of_le hbl HB.out.size
      have d0 := (HB.out.cell (p := ⟨b, o + k * 2, none⟩) hbl).trans c0
      have d1 := (HB.out.cell (p := ⟨b, o + k * 2 + 1, none⟩) hbl).trans c1
      have HM := Lib.hid hM
      obtain ⟨a3, c3, hv3⟩ := row_slice HC.out.row
      subst hv3
      clear hM c0 c1 hcl hS
      go_wp2_with fail
      refine (HCp.out _ HB.out).mono ?_; rintro e w2 ⟨vs, R2, N2, rfl, h8, q2⟩
      obtain ⟨ax, cx, hvs⟩ := row_slice h8.row
      obtain ⟨nx, hns⟩ : ∃ nx, nx = (l.getD k Ob.nought).syms.length := ⟨_, rfl⟩
      subst hvs
      have H8 := Lib.hid h8
      have HCx := Lib.hid (HC.out.below q2)
      have HB2 := Lib.hid (below_call HB.out q2)
      have HQ := Lib.hid q2
      clear q2 h8 d0 d1 HCp hbr
      rw [← hns] at H8 ⊢
      have HNS := Lib.hid hns
      clear hns
      have hone : Hid (∀ u ∈ [Value.string M, .slice ax nx cx], u.oneCell' = true) := Lib.hid (by intro u hu; simp only [List.mem_cons, List.not_mem_nil, or_false] at hu; rcases hu with rfl | rfl <;> rfl)
      have K1 : Hid (k + 1 ≤ maxLen ∧ (k + 1) * 40 ≤ 140737488355328) := Lib.hid (by unfold maxLen; omega)
      have hBs : Hid (w.heap.size ≤ (w2.alloc (.cells #[.string M, .slice ax nx cx] 43)).heap.size) := Lib.hid (below_box HB2.out _).size
      go_wp2_with (at_builtin; refine wpList_append_own _ rfl _ _ _ rfl w.heap.size 43 iO _ 2 40 Try.underlying22 HO.out.1 HO.out.2.1 HO.out.2.2.1 HO.out.2.2.2 rfl (by decide) _ _ _ rfl (HCx.out.row.alloc _) ⟨w2.heap.size, 0, none⟩ 1 1 [.string M, .slice ax nx cx] rfl rfl (new_ob _ _ _) hone.out K1.out.1 K1.out.2 hBs.out ?_; intro v5 w5 h6 h7 h8)
      have hb2 := below_new1 w2 (.cells #[.string M, .slice ax nx cx] 43)
      have hCx := HCx.out.below hb2
      have HC5 : Hid (CpA w5 w.heap.size l (k + 1) v5 (fun j => if j = k then .slice ax nx cx else S j) (fun j => if j = k then R2 else R j) (fun j => if j = k then N2 else N j)) := Lib.hid ⟨by
          rw [flat]
          rw [flat_congr (ds := fun j => obCells (l.getD j Ob.nought) (S j)) k (fun j hj => by simp only [if_neg (show j ≠ k by omega)])]
          simp only [if_pos]
          rw [show obCells (l.getD k Ob.nought) (.slice ax nx cx) = [.string M, .slice ax nx cx] by rw [HM.out]; rfl]
          exact h6, fun j hj => by
          by_cases hx : j = k
          · subst hx
            simp only [if_pos]
            have h9 := ((H8.out.below hb2).other hCx.row (by decide) (by decide) (by decide) h7).base HB.out.size
            rw [HNS.out] at h9 ⊢
            exact h9
          · simp only [if_neg hx]
            exact (hCx.each j (by omega)).other hCx.row (by decide) (by decide) (by decide) h7, fun i j hi hj => by
          by_cases hx : i = k
          · subst hx
            simp only [if_pos, if_neg (show j ≠ i by omega)]
            cases hb : (Value.slice ax nx cx).ownBlock with
            | none => exact .inl rfl
            | some g =>
              right
              intro he
              have h10 := own_lt H8.out.row hb
              have h11 := own_lt (HC.out.each j hj).row he.symm
              omega
          · simp only [if_neg hx, if_neg (show j ≠ k by omega)]
            exact HC.out.apart i j (by omega) hj⟩
      have HB5 : Hid (Below w.heap.size w w5) := Lib.hid ((below_box HB2.out _).grown h7 (below_box HB2.out _).size (fun q hq => (hCx.row.lt q hq).1))
      clear h6 h7 h8 hb2 hCx H8 HCx HC HB HB2 HQ hone K1 hBs HNS
      go_wp2_with fail
      go_roundw
      case rel => exact ⟨k + 1, _, _, _, by omega, by go_num, HC5, HB5⟩
      case measure => simp [intOf]; omega
    · obtain rfl : k = n := by omega
      have hd : decide (k < k) = false := decide_eq_false (by omega)
      clear hlt
      go_wp2_with fail
      go_ret
      exact ⟨_, S, R, N, rfl, HC.out, HB.out⟩
end Go.Proofs.Ytfnofolahhoggaa
