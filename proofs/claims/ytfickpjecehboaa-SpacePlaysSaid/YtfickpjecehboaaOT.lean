/- A script that came in: the list of steps that lies under a slice; a law's last step where the arguments lead to memory. -/
import Derived.Test.YtfickpjecehboaaOS
import Derived.Test.YtfickpjecehboaaSH
import Derived.Test.YtfickpjecehboaaK
import Derived.Deep.Slices
import Derived.SizedLaws
import Derived.ProofKit
import Derived.OpenShut
import Derived.ChangeSlices
import Derived.Carry
set_option linter.unusedVariables false
namespace Go.Proofs.Ytfickpjecehboaa
open Go Go.ChangeShapes Go.WideShapes Go.ChangeAt Go.RowKit

section
variable {H : Type} {enc : TypeId × Value → H} {P : Program}
/-- law_post, where the arguments lead to memory. -/
theorem law_post_at {f : Func} {s : ChangeSpec} {W W' : World} {args : Array Value} {x : Bool} {ds : List (DataW H)} {before : List MemPlace}
    (hW : DataW.Whole enc P f.params.toList s.vars false W args.toList ds [] before) (hvar : s.vars = []) (hs : s.fn H (ds ++ []) = { results := [.lit (.bool x)], args := ds })
    (hf : f.resultTypes = #[4]) (hty : P.underlying 4 = some .bool)
    (hargs : DataW.TrodAll enc P W' 0 (fun b => decide (b < W.heap.size)) true f.params.toList args.toList ds before) (hb : Below W.heap.size W W') :
    s.post enc P f false true false false W args (.bool x) W' := by
  have hlt : ∀ p ∈ before, p.block < W.heap.size := fun p hp => hW.lt p hp
  have hres : ∀ (b : Nat) (sp : Nat → Bool) (hd : Bool), DataW.TrodAll enc P W' b sp hd f.resultTypes.toList ((Value.bool x).resultList f.resultTypes.size) (s.fn H (ds ++ [])).results [] := by
    intro b sp hd
    rw [hs, hf]
    exact trodAll_mk1 (shut_bool hty x)
  have hargs' : DataW.TrodAll enc P W' 0 (fun b => decide (b < W.heap.size)) true f.params.toList args.toList (s.fn H (ds ++ [])).args before := by
    rw [hs]
    exact hargs
  have hvars : ∀ sp : Nat → Bool, DataW.TrodVars enc P W' sp s.vars (s.fn H (ds ++ [])).vars [] := by
    intro sp
    rw [hs, hvar]
    rfl
  refine ⟨ds, [], before, [], before, [], hW, hres _ _ _, hargs', hvars _, World.keptBut_mono (fun p hp => ⟨hp, Or.inr (by simpa using hp)⟩) (hb.frame (· ∈ before)), fun h => ?_⟩
  cases h
end
theorem laidOut : laidOutB Try.prog = true := by kernel_rfl

theorem lie_of_cells {W : World} {ad : Addr} {n : Nat} (X : Nat → Stp) (hn : 0 < n) (hX : ∀ i, i < n → W.cells? 0 (ad.add (i * 4)) 4 = some (X i).cells) :
    ∃ g o, ad = ⟨g, o, none⟩ ∧ g < W.heap.size ∧ Lie W g o ((List.range n).map X) := by
  obtain ⟨g, o, spot⟩ := ad
  have hat : ∀ i, i < n → ∀ j v, (X i).cells[j]? = some v → W.cell? (((⟨g, o, spot⟩ : Addr).add (i * 4)).add j) = some v := by
    intro i hi j v hv
    obtain ⟨_, _, hj⟩ := World.cells?_some (hX i hi)
    have hlt : j < 4 := (List.getElem?_eq_some_iff.1 hv).1
    rw [hj j hlt]
    exact hv
  have h00 := hat 0 hn 0 _ rfl
  have hspot : spot = none := by simpa [Addr.add] using World.cell?_spot h00
  subst hspot
  have hbl : g < W.heap.size := by
    rcases Nat.lt_or_ge g W.heap.size with h | h
    · exact h
    · rw [Addr.add_mid, Addr.add_mid] at h00
      simp [World.cell?, Array.getElem?_eq_none h] at h00
  refine ⟨g, o, rfl, hbl, fun k hk j v hv => ?_⟩
  have hk' : k < n := by simpa using hk
  have hget : ((List.range n).map X).getD k Stp.nought = X k := by simp [List.getD_eq_getElem?_getD, hk']
  rw [hget] at hv
  have := hat k hk' j v hv
  rw [Addr.add_mid, Addr.add_mid] at this
  exact this

theorem open_steps {H : Type} {enc : TypeId × Value → H} {W : World} {spare : Nat → Bool} {held : Bool} {a0 : Option Addr} {n c : Nat} {x : DataW H} {p : List MemPlace} (h : DataW.Trod enc Try.prog W 0 spare held 22 (.slice a0 n c) x p) :
    (n = 0) ∨ ∃ (ad : Addr) (l : List Stp) (sp : List (DataW H)), a0 = some ad ∧ l.length = n ∧ n ≤ maxLen ∧ x = .slice (l.map stpD) sp ∧ (∀ k, k < l.length → (l.getD k Stp.nought).ok) ∧ (l = [] ∨ ∃ g o, ad = ⟨g, o, none⟩ ∧ g < W.heap.size ∧ Lie W g o l) := by
  obtain ⟨fuel, hf⟩ := h
  rcases Go.Deep.open_slice Try.underlying22 hf with ⟨hcs, _⟩ | ⟨a, len, cap, m, n', D, Pl, hcs, _, hl, hmx, hmm, hx, hcell⟩
  · simp [Value.cells] at hcs
    exact .inl hcs.2.1
  · simp [Value.cells] at hcs
    obtain ⟨rfl, rfl, rfl⟩ := hcs
    rw [cStep] at hcell
    have hel : ∀ i, ∃ y : Stp, i < n → y.ok ∧ W.cells? 0 (a.add (i * 4)) 4 = some y.cells ∧ D i = stpD y := by
      intro i
      by_cases hi : i < n
      · obtain ⟨cs', h1, h2⟩ := hcell i (by rw [hmm]; split <;> omega)
        obtain ⟨y, rfl, hd, hok⟩ := stp_of_cells h2
        simp only [Prod.mk.injEq] at hd
        exact ⟨y, fun _ => ⟨hok, h1, hd.1⟩⟩
      · exact ⟨Stp.nought, fun h => absurd h hi⟩
    obtain ⟨X, hX⟩ := Classical.axiomOfChoice hel
    simp only [Prod.mk.injEq] at hx
    have hmap : (List.range n).map D = ((List.range n).map X).map stpD := by
      rw [List.map_map]
      apply List.map_congr_left
      intro i hi
      exact (hX i (List.mem_range.1 hi)).2.2
    refine .inr ⟨a, (List.range n).map X, _, rfl, by simp, by omega, by rw [hx.1, hmap], fun k hk => ?_, ?_⟩
    · have hk' : k < n := by simpa using hk
      have hget : ((List.range n).map X).getD k Stp.nought = X k := by simp [List.getD_eq_getElem?_getD, hk']
      rw [hget]
      exact (hX k hk').1
    · by_cases hz : n = 0
      · subst hz; exact .inl rfl
      · exact .inr (lie_of_cells X (by omega) fun i hi => (hX i hi).2.1)

theorem weights_mem_all {H : Type} {P : Program} {e : TypeId} : ∀ {l : List (DataW H)} {d : DataW H}, d ∈ l → ∀ n ∈ d.weights P e, n ∈ DataW.weightsAll P e l
  | d0 :: r, d, hd, n, hn => by
    simp only [DataW.weightsAll, List.mem_append]
    rcases List.mem_cons.1 hd with h | h
    · subst h; exact .inl hn
    · exact .inr (weights_mem_all h n hn)
/-- A script's texts are within the reach. -/
theorem steps_size {H : Type} {ts : List TypeId} {ds : List (DataW H)} (h : (DataW.weightsEach Try.prog ts ds).all (· ≤ reachBytes) = true) {j : Nat} {l : List Stp} {sp : List (DataW H)} (ht : ts[j]? = some 22)
    (hd : ds[j]? = some (.slice (l.map stpD) sp)) {x : Stp} (hx : x ∈ l) : x.tx.size ≤ reachBytes := by
  have := List.all_eq_true.1 h _ (DataW.weights_mem_each ht hd x.tx.data.toList.length (by
    simp only [DataW.weights, Try.underlying22, List.mem_cons, List.mem_append]
    exact .inr (.inl (weights_mem_all (List.mem_map.2 ⟨x, hx, rfl⟩) _ (by simp [DataW.weights, stpD, Try.underlying34, DataW.weightsEach])))))
  exact of_decide_eq_true this

/-- All that a law wants of a script. -/
theorem script {H : Type} {enc : TypeId × Value → H} {W : World} {spare : Nat → Bool} {held : Bool} {a0 : Option Addr} {n c : Nat} {x : DataW H} {p : List MemPlace} {ts : List TypeId} {ds : List (DataW H)} (h : DataW.Trod enc Try.prog W 0 spare held 22 (.slice a0 n c) x p)
    (hsz : (DataW.weightsEach Try.prog ts ds).all (· ≤ reachBytes) = true) {j : Nat} (ht : ts[j]? = some 22) (hd : ds[j]? = some x) :
    ∃ l : List Stp, l.length = n ∧ n ≤ maxLen ∧ (∀ k, k < l.length → (l.getD k Stp.nought).fits) ∧ ∀ k, k < l.length → ∃ g o, a0 = some ⟨g, o, none⟩ ∧ g < W.heap.size ∧ Lie W g o l := by
  rcases open_steps h with rfl | ⟨ad, l, sp, rfl, hl, hm, rfl, hok, hL⟩
  · exact ⟨[], rfl, Nat.zero_le _, fun k hk => absurd hk (by simp), fun k hk => absurd hk (by simp)⟩
  · refine ⟨l, hl, hm, fun k hk => ?_, fun k hk => ?_⟩
    · refine (hok k hk).fits ?_
      have hmem : l.getD k Stp.nought ∈ l := by
        rw [List.getD_eq_getElem?_getD, List.getElem?_eq_getElem hk]
        exact List.getElem_mem hk
      exact Nat.le_trans (steps_size hsz ht hd hmem) (by decide)
    · rcases hL with rfl | ⟨g, o, rfl, hg, hLi⟩
      · exact absurd hk (by simp)
      · exact ⟨g, o, rfl, hg, hLi⟩
end Go.Proofs.Ytfickpjecehboaa
