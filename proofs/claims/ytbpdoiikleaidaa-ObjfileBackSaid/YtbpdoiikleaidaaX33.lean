/- The program's All. -/
import Derived.Test.YtbpdoiikleaidaaX32
import Derived.LoopTactic
set_option linter.unusedVariables false
set_option linter.unusedSimpArgs false
namespace Go.Proofs.Ytbpdoiikleaidaa
open Go Go.RowKit Oj Pk Of

theorem infoOb2 : (Try.prog.info? 24).map (fun i => (i.zero, i.size, i.bytes)) = some (some (.agg #[.string ⟨#[]⟩, .slice none 0 0]), 2, 40) := by kernel_rfl
theorem new_ob (W : World) (a b : Value) : ∀ j u, [a, b][j]? = some u → (W.alloc (.cells #[a, b] 24)).cell? ((⟨W.heap.size, 0, none⟩ : Addr).add j) = some u :=
  World.news_of_block (cs := #[a, b]) (t := 24) (heap_alloc_new W _)
theorem Cp8.kept_row {w w' : World} {B : Nat} {l : List Sy} {k : Nat} {v : Value} {R N : Nat → Value} {v2 : Value} {m : Nat} {xs : List Value} (h : Cp8 w B l k v R N) (hr : w.ownsRow B 24 2 v2 m xs) (hg : w.grownBy w' v2.ownBlock) : Cp8 w' B l k v R N :=
  ⟨h.row.kept hg (row_apart h.row hr (by decide)), fun j hj => World.ownsRow.kept (h.rels j hj) hg (row_apart (h.rels j hj) hr (by decide)), fun j hj => World.ownsRow.kept (h.notes j hj) hg (row_apart (h.notes j hj) hr (by decide))⟩
/-- A slice of a call's own that holds the first k of these objects. -/
structure Obs8 (w : World) (B : Nat) (OS : List Ob) (k : Nat) (v : Value) (S : Nat → Value) : Prop where
  row : w.ownsRow B 24 2 v k (flat (fun j => obCells (OS.getD j Ob.nought) (S j)) k)
  obs : ∀ j, j < k → ∃ a c R N, S j = .slice a (OS.getD j Ob.nought).syms.length c ∧ Cp8 w B (OS.getD j Ob.nought).syms (OS.getD j Ob.nought).syms.length (S j) R N
theorem Obs8.below {w w' : World} {B : Nat} {OS : List Ob} {k : Nat} {v : Value} {S : Nat → Value} (h : Obs8 w B OS k v S) (hb : Below w.heap.size w w') : Obs8 w' B OS k v S :=
  ⟨row_below h.row hb, fun j hj => by
    obtain ⟨a, c, R, N, e, h2⟩ := h.obs j hj
    exact ⟨a, c, R, N, e, h2.below hb⟩⟩
theorem Obs8.more {w w' : World} {B : Nat} {OS : List Ob} {k : Nat} {v v' : Value} {S : Nat → Value} (h : Obs8 w B OS k v S) {a : Option Addr} {c : Nat} {R N : Nat → Value} (hn : Cp8 w B (OS.getD k Ob.nought).syms (OS.getD k Ob.nought).syms.length (.slice a (OS.getD k Ob.nought).syms.length c) R N)
    (hrow : w'.ownsRow B 24 2 v' (k + 1) (flat (fun j => obCells (OS.getD j Ob.nought) (S j)) k ++ obCells (OS.getD k Ob.nought) (.slice a (OS.getD k Ob.nought).syms.length c))) (hg : w.grownBy w' v.ownBlock) :
    Obs8 w' B OS (k + 1) v' (fun j => if j = k then .slice a (OS.getD k Ob.nought).syms.length c else S j) := by
  refine ⟨?_, fun j hj => ?_⟩
  · rw [flat, flat_congr (ds := fun j => obCells (OS.getD j Ob.nought) (S j)) k (fun j hj => by simp only [if_neg (show j ≠ k by omega)])]
    simp only [if_true]
    exact hrow
  · by_cases hk : j = k
    · subst hk
      simp only [if_true]
      exact ⟨a, c, R, N, rfl, hn.kept_row h.row hg⟩
    · simp only [if_neg hk]
      obtain ⟨a2, c2, R2, N2, e, h2⟩ := h.obs j (by omega)
      exact ⟨a2, c2, R2, N2, e, h2.kept_row h.row hg⟩
theorem Obs8.all {w : World} {B : Nat} {OS : List Ob} {v : Value} {S : Nat → Value} (h : Obs8 w B OS OS.length v S) : ObsAt w v OS :=
  ⟨S, slC_of_row (fun _ _ => rfl) h.row, fun j hj => by
    obtain ⟨a, c, R, N, e, h2⟩ := h.obs j hj
    rw [e] at h2 ⊢
    exact h2.syms⟩
/-- The objects that texts are (none for a text that is no encoding). -/
def objsOf (L : List (List UInt8)) : List Ob := L.map fun s => (getO s).getD Ob.nought
theorem objsOf_at (L : List (List UInt8)) (j : Nat) (hj : j < L.length) : (objsOf L).getD j Ob.nought = (getO (L.getD j [])).getD Ob.nought := by
  unfold objsOf
  rw [List.getD_eq_getElem?_getD, List.getElem?_map, List.getElem?_eq_getElem hj, List.getD_eq_getElem?_getD, List.getElem?_eq_getElem hj]
  rfl
/-- What All leaves. -/
def AllPost (w : World) (L : List (List UInt8)) (e : Ending) (w' : World) : Prop :=
  Below w.heap.size w w' ∧
  ((∃ k, k < L.length ∧ (∀ j, j < k → (getO (L.getD j [])).isSome = true) ∧ getO (L.getD k []) = none ∧ e = .returned (.tuple #[.slice none 0 0, .int .i64 (k : Int), .int .i64 7])) ∨
   ((∀ j, j < L.length → (getO (L.getD j [])).isSome = true) ∧ ∃ a c S, e = .returned (.tuple #[.slice a L.length c, .int .i64 (L.length : Int), .int .i64 0]) ∧ Obs8 w' w.heap.size (objsOf L) L.length (.slice a L.length c) S))
theorem results_tmp3' {fn : Func} {t u v : Tmp} (h : fn.results = #[.tmp t, .tmp u, .tmp v]) (tmps : Array Value) (P : Program) (w : World) :
    (results fn tmps).run P w = .ok (.tuple #[tmps.getD t undef, tmps.getD u undef, tmps.getD v undef]) w := by
  simp only [results, h]
  simp [Sem.run_bind, Result.andThen]
set_option maxHeartbeats 8000000 in
set_option maxRecDepth 100000 in
theorem fall_any (v : Value) (L : List (List UInt8)) (w : World) (hs : SlAt w v L) (hl : ∀ j, j < L.length → (L.getD j []).length ≤ 4194304) (hn : L.length ≤ 65536) : Calls Try.prog 15 #[v] w (AllPost w L) := by
  obtain ⟨iO, hi, hz, hsz, hb⟩ := info_parts infoOb2
  have HI := Lib.hid (And.intro hi (And.intro hz (And.intro hsz hb)))
  clear hi hz hsz hb
  obtain ⟨al, cl, rfl, h2⟩ := hs
  obtain ⟨n, hnl⟩ : ∃ n, n = L.length := ⟨_, rfl⟩
  have HGet := Lib.hid (fun k (hk : k < n) W => fget_any (L.getD k []) W (hl k (by omega)))
  have HSl : Hid (0 < n → ∃ b o, al = some ⟨b, o, none⟩ ∧ b < w.heap.size ∧ ∀ j, j < n → w.cell? ⟨b, o + j, none⟩ = some (.string (tx (L.getD j [])))) := Lib.hid (fun h => by
    rw [hnl]
    exact h2 (fun e => by rw [hnl, e] at h; exact absurd h (by decide)))
  have HAt := Lib.hid (fun j (hj : j < n) => objsOf_at L j (by omega))
  have HFail : Hid (∀ k W, k < n → Below w.heap.size w W → (∀ j, j < k → (getO (L.getD j [])).isSome = true) → getO (L.getD k []) = none → AllPost w L (.returned (.tuple #[.slice none 0 0, .int .i64 (k : Int), .int .i64 7])) W) := Lib.hid (fun k W hk hW h1 h3 => ⟨hW, .inl ⟨k, by omega, h1, h3, rfl⟩⟩)
  have HDone : Hid (∀ W a c S, Below w.heap.size w W → (∀ j, j < n → (getO (L.getD j [])).isSome = true) → Obs8 W w.heap.size (objsOf L) n (.slice a n c) S → AllPost w L (.returned (.tuple #[.slice a n c, .int .i64 (n : Int), .int .i64 0])) W) := Lib.hid (fun W a c S hW h1 h3 => by
    rw [hnl] at h1 h3 ⊢
    exact ⟨hW, .inr ⟨h1, a, c, S, rfl, h3⟩⟩)
  rw [← hnl] at hn ⊢
  have hni : (n : Int) ≤ 65536 := by omega
  obtain ⟨PO, hPO⟩ : ∃ P, P = AllPost w L := ⟨_, rfl⟩
  rw [← hPO] at HFail HDone ⊢
  obtain ⟨OS, hOS⟩ : ∃ O, O = objsOf L := ⟨_, rfl⟩
  rw [← hOS] at HAt HDone
  have HB0 := Lib.hid (Below.refl w.heap.size w)
  clear h2 hnl hl hn hPO hOS
  go_enter Try.func15, Try.ntmps15
  go_wp2_with fail
  go_loopw [5, 12] (fun v i wr => ∃ (k : Nat) (S : Nat → Value), (k : Int) ≤ n ∧ i = .int .i64 (k : Int) ∧ Hid (∀ j, j < k → (getO (L.getD j [])).isSome = true) ∧ Hid (Below w.heap.size w wr) ∧ Hid (Obs8 wr w.heap.size OS k v S)) (fun v i _ => n - (intOf i).toNat)
  case atStart => exact ⟨0, fun _ => undef, by omega, rfl, Lib.hid fun j hj => absurd hj (by omega), HB0, Lib.hid ⟨World.ownsRow_nil _ _ _ _, fun j hj => absurd hj (by omega)⟩⟩
  case round =>
    clear HB0
    obtain ⟨k, S, hk, rfl, HK, HB, HO⟩ := hrel
    obtain ⟨a5, c5', hv5⟩ := row_slice HO.out.row
    subst hv5
    by_cases hlt : k < n
    · have hd : decide (k < n) = true := decide_eq_true hlt
      obtain ⟨b, o, rfl, hbl, hcl⟩ := HSl.out (by omega)
      have hbr : b < wr.heap.size := Nat.lt_of_lt_of_le hbl HB.out.size
      have c0 := (HB.out.cell (p := ⟨b, o + k, none⟩) hbl).trans (hcl k hlt)
      have HG := Lib.hid (HGet.out k hlt wr)
      have HOk := Lib.hid (HAt.out k hlt)
      obtain ⟨T, hT⟩ : ∃ T, T = tx (L.getD k []) := ⟨_, rfl⟩
      rw [← hT] at c0 HG
      obtain ⟨G, hG⟩ : ∃ G, G = getO (L.getD k []) := ⟨_, rfl⟩
      rw [← hG] at HG HOk
      have HGE := Lib.hid hG
      clear hcl hT hG
      cases G with
      | none =>
        go_wp2_with fail
        refine HG.out.mono ?_; rintro e w1 ⟨vv, c, rfl, hb1, hc1, hv1⟩
        subst hc1 hv1
        have HB1 := Lib.hid (below_call HB.out hb1)
        clear hb1 HG c0 hbr hbl
        go_wp2_with fail
        refine bodyPost_ret (results_tmp3' rfl _ _ _) rfl ?_
        exact HFail.out k _ hlt (below_box HB1.out _) HK.out HGE.out.symm
      | some x =>
        have HOx : Hid (OS.getD k Ob.nought = x) := Lib.hid HOk.out
        have HK1 : Hid (∀ j, j < k + 1 → (getO (L.getD j [])).isSome = true) := Lib.hid (fun j hj => by
          by_cases hjk : j = k
          · subst hjk; rw [← HGE.out]; rfl
          · exact HK.out j (by omega))
        obtain ⟨nm, hnm⟩ : ∃ t, t = tx x.name := ⟨_, rfl⟩
        obtain ⟨m, hm⟩ : ∃ m, m = x.syms.length := ⟨_, rfl⟩
        have HCells : Hid (∀ s, obCells x s = [.string nm, s]) := Lib.hid (fun s => by unfold obCells; rw [hnm])
        unfold GetPost ObOwn at HG
        simp only at HG
        have HKb : Hid (k + 1 ≤ maxLen ∧ (k + 1) * 40 ≤ 140737488355328) := Lib.hid (by unfold maxLen; omega)
        have HM := Lib.hid hm
        rw [← hnm, ← hm] at HG
        clear HOk hnm hm HGE HK
        go_wp2_with fail
        refine HG.out.mono ?_; rintro e w1 ⟨vv, cc, rfl, hb1, hc1, a1, c1, R, N, hv1, hcp⟩
        subst hc1 hv1
        have HB1 := Lib.hid (below_call HB.out hb1)
        have HO1 := Lib.hid (HO.out.below hb1)
        have HC1 := Lib.hid (hcp.mono HB.out.size)
        have HB2 := Lib.hid (below_box HB1.out (.cells #[.string nm, .slice a1 m c1] 24))
        have HO2 := Lib.hid (HO1.out.below (below_new1 w1 (.cells #[.string nm, .slice a1 m c1] 24)))
        have HC2 := Lib.hid (HC1.out.below (below_new1 w1 (.cells #[.string nm, .slice a1 m c1] 24)))
        have hblk := Blk.new w1 24 [.string nm, .slice a1 m c1]
        clear hb1 hcp HG c0 hbr hbl HB HO HB1 HO1 HC1
        go_upto_region 6 with (fail)
        obtain ⟨w2, hw⟩ : ∃ t, t = w1.alloc (.cells #[.string nm, .slice a1 m c1] 24) := ⟨_, rfl⟩
        rw [← hw] at HB2 HO2 HC2 ⊢
        have y0 : w2.cell? ⟨w1.heap.size, 0, none⟩ = some (.string nm) := by rw [hw]; exact hblk.cell 0
        have y1 : w2.cell? ⟨w1.heap.size, 1, none⟩ = some (.slice a1 m c1) := by rw [hw]; exact hblk.cell 1
        clear hw hblk
        have hone : Hid (∀ u ∈ [Value.string nm, .slice a1 m c1], u.oneCell' = true) := Lib.hid (by intro u hu; simp only [List.mem_cons, List.not_mem_nil, or_false] at hu; rcases hu with rfl | rfl <;> rfl)
        have hBs : Hid (w.heap.size ≤ (w2.alloc (.cells #[.string nm, .slice a1 m c1] 24)).heap.size) := Lib.hid (below_box HB2.out _).size
        go_wp2_with (at_builtin; refine wpList_append_own _ rfl _ _ 38 rfl w.heap.size 24 iO _ 2 40 Try.underlying38 HI.out.1 HI.out.2.1 HI.out.2.2.1 HI.out.2.2.2 rfl (by decide) _ _ _ rfl (HO2.out.row.alloc _) ⟨w2.heap.size, 0, none⟩ 1 1 [.string nm, .slice a1 m c1] rfl rfl (new_ob _ _ _) hone.out HKb.out.1 HKb.out.2 hBs.out ?_)
        intro v6 w6 h6 h7 _
        have hOx := HO2.out.below (below_new1 w2 (.cells #[.string nm, .slice a1 m c1] 24))
        have hCx := HC2.out.below (below_new1 w2 (.cells #[.string nm, .slice a1 m c1] 24))
        have O6 := Lib.hid (hOx.more (v' := v6) (a := a1) (c := c1) (R := R) (N := N) (by rw [HOx.out, ← HM.out]; exact hCx) (by rw [HOx.out, HCells.out, ← HM.out]; exact h6) h7)
        have HB6 : Hid (Below w.heap.size w w6) := Lib.hid ((below_box HB2.out _).grown h7 (below_box HB2.out _).size (fun q hq => (hOx.row.lt q hq).1))
        obtain ⟨a7, c7, hv⟩ := row_slice O6.out.row
        clear h6 h7 hOx hCx HO2 HC2 HB2 hone hBs HKb y0 y1 HCells HOx HM
        subst hv
        go_wp2_with fail
        go_roundw
        case rel => exact ⟨k + 1, _, by omega, by go_num, HK1, HB6, O6⟩
        case measure => simp [intOf]; omega
    · have hd : decide (k < n) = false := decide_eq_false hlt
      obtain rfl : k = n := by omega
      clear hlt
      go_wp2_with fail
      refine bodyPost_ret (results_tmp3' rfl _ _ _) rfl ?_
      exact HDone.out _ _ _ _ HB.out HK.out HO.out
end Go.Proofs.Ytbpdoiikleaidaa
