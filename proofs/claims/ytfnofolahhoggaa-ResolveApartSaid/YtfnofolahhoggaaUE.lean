/- The program's enter, over whatever symbol; a resolver. -/
import Derived.Test.YtfnofolahhoggaaUD
import Derived.Test.YtfnofolahhoggaaCL
set_option linter.unusedVariables false
set_option linter.unusedSimpArgs false
namespace Go.Proofs.Ytfnofolahhoggaa
open Go Go.RowKit Go.Maps Oj Rv

theorem link_ob {l : List Ob} (h : linkOk l = true) {i : Nat} (hi : i < l.length) : (symsN l i).length ≤ 64 ∧ symsOk (symsN l i) = true := by
  unfold linkOk at h
  rw [Bool.and_eq_true] at h
  have h2 := allN_at h.2 hi
  unfold obOk at h2
  simp only [Bool.and_eq_true, decide_eq_true_eq] at h2
  exact ⟨h2.1.2, h2.2⟩
theorem link_len {l : List Ob} (h : linkOk l = true) : l.length ≤ 16 := by
  unfold linkOk at h
  rw [Bool.and_eq_true] at h
  exact of_decide_eq_true h.1
theorem link_sym {l : List Ob} (h : linkOk l = true) {i j : Nat} (hi : i < l.length) (hj : j < (symsN l i).length) : symOk (symP l (i, j)) = true := by
  have h2 := (link_ob h hi).2
  unfold symsOk at h2
  have h3 := allN_at h2 hj
  rw [Bool.and_eq_true] at h3
  exact h3.1
theorem link_bind {l : List Ob} (h : linkOk l = true) {i j : Nat} (hi : i < l.length) (hj : j < (symsN l i).length) : (symP l (i, j)).bind = 0 ∨ (symP l (i, j)).bind = 1 ∨ (symP l (i, j)).bind = 2 := by
  have h2 := link_sym h hi hj
  unfold symOk bindOk at h2
  simp only [Bool.and_eq_true, decide_eq_true_eq] at h2
  exact h2.1.1.1.1.2
theorem enter_all (l : List Ob) (i j : Nat) (hb : (symP l (i, j)).bind = 0 ∨ (symP l (i, j)).bind = 1 ∨ (symP l (i, j)).bind = 2) (b n : Nat) (ra na : Option Addr) (rn rc nn nc : Nat) (hU : (symP l (i, j)).name.length ≤ 140737488355328) (hn : n < maxLen) (w : World) (h : EntIs w b n (entB l (pre l i j))) :
    Calls Try.prog 33 #[.map (some b), .agg #[.string (tx (symP l (i, j)).name), .int .u8 (symP l (i, j)).bind, .int .u8 (symP l (i, j)).kind, .int .u32 (symP l (i, j)).size, .string (tx (symP l (i, j)).bytes), .slice ra rn rc, .slice na nn nc], .agg #[.int .i64 (i : Int), .int .i64 (j : Int)]] w
      fun e w' => e = .returned (.int .i64 (if dupP l (i, j) = true then 120 else 0)) ∧ w.grownBy w' (some b) ∧ (dupP l (i, j) = false → EntIs w' b (n + 1) (entB l (pre l i (j + 1)))) := by
  obtain ⟨s, hs⟩ : ∃ s, s = symP l (i, j) := ⟨_, rfl⟩
  have hU' : (tx s.name).size ≤ 140737488355328 := by rw [tx_size, hs]; exact hU
  have hdp : dupP l (i, j) = (decide (s.bind = 1) && (fstB l (pre l i j) s.name 1).isSome) := by rw [hs]; rfl
  rw [← hs] at hb ⊢
  rw [pre_next]
  have hnb : by' (tx s.name) = s.name := by_tx _
  rcases hb with hb | hb | hb
  · rw [hb]
    have hd : dupP l (i, j) = false := by rw [hdp, hb]; rfl
    refine (enter_loc b n _ (tx s.name) (tx s.bytes) s.kind s.size ra na rn rc nn nc (i, j) hU' hn w h).mono ?_
    rintro e w' ⟨rfl, h1, h2⟩
    exact ⟨by rw [hd]; rfl, h2, fun _ => h1.to (fun nm => ent_skip (by rw [← hs]; omega) (by rw [← hs]; omega) nm)⟩
  · cases hf : fstB l (pre l i j) s.name 1 with
    | some q =>
      have hd : dupP l (i, j) = true := by rw [hdp, hb, hf]; rfl
      rw [hb]
      refine (enter_dup b n _ (tx s.name) (tx s.bytes) s.kind s.size ra na rn rc nn nc (i, j) hU' hn ⟨q, by rw [hnb]; unfold entB; rw [hf]⟩ w h).mono ?_
      rintro e w' ⟨rfl, h1, h2⟩
      exact ⟨by rw [hd]; rfl, h2, fun h => by rw [hd] at h; cases h⟩
    | none =>
      have hd : dupP l (i, j) = false := by rw [hdp, hb, hf]; rfl
      have hM : ∀ nm, entB l (pre l i j ++ [(i, j)]) nm = if nm = s.name then some ((i, j), true) else entB l (pre l i j) nm := fun nm => by
        have := ent_strong (l := l) (ps := pre l i j) (p := (i, j)) (by rw [← hs]; exact hb) (by rw [← hs]; exact hf) nm
        rw [← hs] at this
        exact this
      rw [hb]
      cases hg : fstB l (pre l i j) s.name 2 with
      | none =>
        refine (enter_new1 b n _ (tx s.name) (tx s.bytes) s.kind s.size ra na rn rc nn nc (i, j) hU' hn (by rw [hnb]; unfold entB; rw [hf, hg]; rfl) w h).mono ?_
        rintro e w' ⟨rfl, h1, h2⟩
        exact ⟨by rw [hd]; rfl, h2, fun _ => h1.to (fun nm => by rw [hM, hnb])⟩
      | some q =>
        refine (enter_over b n _ (tx s.name) (tx s.bytes) s.kind s.size ra na rn rc nn nc (i, j) hU' hn ⟨q, by rw [hnb]; unfold entB; rw [hf, hg]; rfl⟩ w h).mono ?_
        rintro e w' ⟨rfl, h1, h2⟩
        exact ⟨by rw [hd]; rfl, h2, fun _ => h1.to (fun nm => by rw [hM, hnb])⟩
  · have hd : dupP l (i, j) = false := by rw [hdp, hb]; rfl
    rw [hb]
    cases hE : entB l (pre l i j) s.name with
    | none =>
      refine (enter_new2 b n _ (tx s.name) (tx s.bytes) s.kind s.size ra na rn rc nn nc (i, j) hU' hn (by rw [hnb]; exact hE) w h).mono ?_
      rintro e w' ⟨rfl, h1, h2⟩
      refine ⟨by rw [hd]; rfl, h2, fun _ => h1.to (fun nm => ?_)⟩
      have := ent_weak (l := l) (ps := pre l i j) (p := (i, j)) (by rw [← hs]; exact hb) (by rw [← hs]; exact hE) nm
      rw [this, ← hs, hnb]
    | some x =>
      obtain ⟨q, st⟩ := x
      refine (enter_keep b n _ (tx s.name) (tx s.bytes) s.kind s.size ra na rn rc nn nc (i, j) hU' hn ⟨q, st, by rw [hnb]; exact hE⟩ w h).mono ?_
      rintro e w' ⟨rfl, h1, h2⟩
      exact ⟨by rw [hd]; rfl, h2, fun _ => h1.to (fun nm => ent_keep (by rw [← hs]; exact hb) (by rw [← hs, hE]; rfl) nm)⟩

theorem results_cell_tmp2 {fn : Func} {p u u2 : Tmp} {ty : TypeId} (h : fn.results = #[.cell p ty, .tmp u, .tmp u2]) (tmps : Array Value) (P : Program) (w : World) :
    (results fn tmps).run P w =
      ((asAddr (tmps.getD p undef)).run P w).andThen fun a w₁ => ((loadVar ty a).run P w₁).andThen fun v w₂ => .ok (.tuple #[v, tmps.getD u undef, tmps.getD u2 undef]) w₂ := by
  simp only [results, h]
  simp [Sem.run_bind, Result.andThen]
theorem infoRes : (Try.prog.info? 60).map (·.size) = some 2 := by kernel_rfl
theorem res_rs_tmp {fn : Func} {p u u2 : Tmp} (h : fn.results = #[.cell p 60, .tmp u, .tmp u2]) (tmps : Array Value) (w : World) (k : Nat) (a b v v2 : Value) (hp : tmps.getD p undef = .pointer (some ⟨k, 0, none⟩)) (hv : tmps.getD u undef = v) (hv2 : tmps.getD u2 undef = v2)
    (hb : Blk w k 60 [a, b]) : (results fn tmps).run Try.prog w = .ok (.tuple #[.agg #[a, b], v, v2]) w := by
  have hb' : w.heap[k]? = some (.cells #[a, b] 60 (0, 0)) := hb
  rw [results_cell_tmp2 h, hp, hv, hv2]
  simp [asAddr, Result.andThen, run_loadVar_row w k 60 60 _ (0, 0) _ hb' Try.underlying60 rfl infoRes]

/-- What of answers. -/
def OfPost (w : World) (l : List Ob) (v : Value) (e : Ending) (w' : World) : Prop := Below w.heap.size w w' ∧
  ((linkOk l = false ∧ e = .returned (.tuple #[.agg #[.map none, .slice none 0 0], .string (tx []), .int .i64 2])) ∨
  (linkOk l = true ∧ ∃ p, dupL l = some p ∧ e = .returned (.tuple #[.agg #[.map none, .slice none 0 0], .string (tx (symP l p).name), .int .i64 120])) ∨
  (linkOk l = true ∧ dupL l = none ∧ ∃ b n, EntIs w' b n (entB l (allP l)) ∧ e = .returned (.tuple #[.agg #[.map (some b), v], .string (tx []), .int .i64 0])))
theorem below_grown {w0 w w' : World} (h : Below w0.heap.size w0 w) {b : Nat} (hg : w.grownBy w' (some b)) (hb : w0.heap.size ≤ b) : Below w0.heap.size w0 w' := h.grown hg h.size (fun k hk => by cases hk; exact hb)
end Go.Proofs.Ytfnofolahhoggaa
