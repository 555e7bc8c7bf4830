/- What came in, opened: a list of texts, a list of calls; a law's last step where the arguments lead to memory. -/
import Derived.Test.YtijfdnaolgbpmaaPL
import Derived.Test.YtijfdnaolgbpmaaPQ
import Derived.Test.YtijfdnaolgbpmaaRows
import Derived.Deep.Slices
import Derived.Deep.Strs
import Derived.SizedLaws
import Derived.ProofKit
import Derived.OpenShut
import Derived.ShutString
import Derived.ChangeSlices
import Derived.Carry
import Derived.WalkArith
import Derived.ChangeMaps5
set_option linter.unusedVariables false
namespace Go.Proofs.Ytijfdnaolgbpmaa
open Go Go.ChangeShapes Go.WideShapes Go.ChangeAt Go.RowKit

section
variable {H : Type} {enc : TypeId × Value → H} {P : Program}
/-- law_post, where the arguments lead to memory. -/
theorem law_post_at {f : Func} {s : ChangeSpec} {W W' : World} {args : Array Value} {x : Bool} {ds : List (DataW H)} {before : List MemPlace}
    (hW : DataW.Whole enc P f.params.toList s.vars false W args.toList ds [] before) (hvar : s.vars = []) (hs : s.fn H (ds ++ []) = { results := [.lit (.bool x)], args := ds })
    (hf : f.resultTypes = #[4]) (hty : P.underlying 4 = some .bool)
    (hargs : DataW.TrodAll enc P W' 0 (fun b => decide (b < W.heap.size)) true f.params.toList args.toList ds before) (hb : Below W.heap.size W W') :
    s.post enc P f false true false false W args (.bool x) W' := by
  have hlt : ∀ p ∈ before, p.block < W.heap.size := fun p hp => hW.lt p hp
  have hres : ∀ (b : Nat) (sp : Nat → Bool) (hd : Bool), DataW.TrodAll enc P W' b sp hd f.resultTypes.toList ((Value.bool x).resultList f.resultTypes.size) (s.fn H (ds ++ [])).results [] := by
    intro b sp hd
    rw [hs, hf]
    exact trodAll_mk1 (shut_bool hty x)
  have hargs' : DataW.TrodAll enc P W' 0 (fun b => decide (b < W.heap.size)) true f.params.toList args.toList (s.fn H (ds ++ [])).args before := by
    rw [hs]
    exact hargs
  have hvars : ∀ sp : Nat → Bool, DataW.TrodVars enc P W' sp s.vars (s.fn H (ds ++ [])).vars [] := by
    intro sp
    rw [hs, hvar]
    rfl
  refine ⟨ds, [], before, [], before, [], hW, hres _ _ _, hargs', hvars _, World.keptBut_mono (fun p hp => ⟨hp, Or.inr (by simpa using hp)⟩) (hb.frame (· ∈ before)), fun h => ?_⟩
  cases h
end
theorem laidOut : laidOutB Try.prog = true := by kernel_rfl
theorem cellsStr : Try.prog.cellsOf 9 = 1 := by kernel_rfl
theorem cellsInt : Try.prog.cellsOf 3 = 1 := by kernel_rfl
theorem cellsStep : Try.prog.cellsOf 41 = 2 := by kernel_rfl
theorem bytesStep : Try.prog.bytesOf 41 = 16 := by kernel_rfl
theorem bytesStr : Try.prog.bytesOf 9 = 16 := by kernel_rfl
theorem weights_mem_all {H : Type} {P : Program} {e : TypeId} : ∀ {l : List (DataW H)} {d : DataW H}, d ∈ l → ∀ n ∈ d.weights P e, n ∈ DataW.weightsAll P e l
  | d0 :: r, d, hd, n, hn => by
    simp only [DataW.weightsAll, List.mem_append]
    rcases List.mem_cons.1 hd with h | h
    · subst h; exact .inl hn
    · exact .inr (weights_mem_all h n hn)
theorem sized_elem {H : Type} {P : Program} {ts : List TypeId} {ds : List (DataW H)} (h : (DataW.weightsEach P ts ds).all (· ≤ reachBytes) = true) {j : Nat} {t e : TypeId} {elems spare : List (DataW H)} {bytes : List UInt8} (ht : ts[j]? = some t)
    (hd : ds[j]? = some (.slice elems spare)) (hu : P.underlying t = some (.slice e)) (hm : (DataW.lit (.string bytes) : DataW H) ∈ elems) : bytes.length ≤ reachBytes := by
  have := List.all_eq_true.1 h _ (DataW.weights_mem_each ht hd bytes.length (by
    simp only [DataW.weights, hu, List.mem_cons, List.mem_append]
    exact .inr (.inl (weights_mem_all hm _ (by simp [DataW.weights])))))
  simpa using this
theorem reach_le : reachBytes ≤ 140737488355328 := by decide

/-- A list of texts that came in. -/
theorem strs_arg {H : Type} {enc : TypeId × Value → H} {W : World} {a0 : Option Addr} {n c : Nat} {d : DataW H} {p : List MemPlace} {ts : List TypeId} {ds : List (DataW H)} (h0 : DataW.Trod enc Try.prog W 0 (fun _ => true) true 23 (.slice a0 n c) d p)
    (hsz : (DataW.weightsEach Try.prog ts ds).all (· ≤ reachBytes) = true) {j : Nat} (ht : ts[j]? = some 23) (hd : ds[j]? = some d) :
    ∃ L : List (List UInt8), SlArg W (.slice a0 n c) L ∧ (∀ j, j < L.length → (L.getD j []).length ≤ 140737488355328) ∧ L.length ≤ 140737488355328 := by
  have hreach := reach_le
  obtain ⟨fuel, hf⟩ := h0
  rcases Go.Deep.open_strs Try.underlying23 Try.underlying9 cellsStr hf with ⟨hcs, hx⟩ | ⟨a, len', cap', mm, Sx, hcs, _, hl, hm, hmm, hx, hcell⟩
  · simp [Value.cells] at hcs
    obtain ⟨rfl, rfl, rfl⟩ := hcs
    exact ⟨[], .inl ⟨rfl, rfl⟩, by intro j hj; simp at hj, by simp⟩
  · simp [Value.cells] at hcs
    obtain ⟨rfl, rfl, rfl⟩ := hcs
    simp only [if_true] at hmm
    subst hmm
    simp only [Prod.mk.injEq] at hx
    have hcap := sized_slice hsz (j := j) (t := 23) (e := 9) ht (by rw [hd, hx.1]) Try.underlying23
    simp only [List.length_map, List.length_range, bytesStr] at hcap
    have hstr : ∀ k, k < n → (Sx k).size ≤ reachBytes := fun k hk => by
      have h := sized_elem hsz (j := j) (t := 23) (e := 9) (bytes := (Sx k).data.toList) ht (by rw [hd, hx.1]) Try.underlying23 (List.mem_map.2 ⟨k, List.mem_range.2 hk, rfl⟩)
      rw [Array.length_toList] at h
      exact h
    have hg : ∀ k, k < n → ((List.range n).map fun k => by' (Sx k)).getD k [] = by' (Sx k) := fun k hk => by simp [List.getD_eq_getElem?_getD, hk]
    have hlen : ((List.range n).map fun k => by' (Sx k)).length = n := by simp
    refine ⟨(List.range n).map fun k => by' (Sx k), .inr ⟨a, _, by rw [hlen], fun hn => ?_⟩, ?_, by rw [hlen]; omega⟩
    · have hn0 : 0 < n := by
        rcases Nat.eq_zero_or_pos n with h | h
        · subst h; exact absurd rfl hn
        · exact h
      obtain ⟨b, o, spot⟩ := a
      have h00 := (hcell 0 (by omega)).1
      have hspot : spot = none := by simpa [Addr.add] using World.cell?_spot h00
      subst hspot
      have hbl : b < W.heap.size := by
        rcases Nat.lt_or_ge b W.heap.size with h | h
        · exact h
        · rw [Addr.add_mid] at h00
          simp [World.cell?, Array.getElem?_eq_none h] at h00
      refine ⟨b, o, rfl, hbl, fun k hk => ?_⟩
      have hk' : k < n := by rwa [hlen] at hk
      rw [hg k hk', tx_by, ← Addr.add_mid]
      exact (hcell k (by omega)).1
    · intro k hk
      have hk' : k < n := by rwa [hlen] at hk
      rw [hg k hk', by_length]
      have := hstr k hk'
      omega

/-- One call, as cells. -/
theorem call_of_cells {H : Type} {enc : TypeId × Value → H} {w : World} {base : Nat} {spare : Nat → Bool} {held : Bool} {fuel : Nat} {cs : List Value} {x : DataW H × List MemPlace} (h : DataW.trod enc Try.prog w base spare held fuel 41 cs = some x) :
    ∃ d n : Int, cs = [.int .i64 d, .int .i64 n] := by
  obtain ⟨xs, n, _, rfl, hl, hxl, hg⟩ := DataW.trod_struct Try.underlying41 h
  rw [cellsStep] at hl
  match cs, hl with
  | [v0, v1], _ =>
    match xs, hxl with
    | [y0, y1], _ =>
      have g0 : DataW.trod enc Try.prog w base spare held n 3 [v0] = some y0 := by simpa [cellsInt] using hg 0 _ rfl
      have g1 : DataW.trod enc Try.prog w base spare held n 3 [v1] = some y1 := by simpa [cellsInt] using hg 1 _ rfl
      obtain ⟨n0, e0, f0, w0⟩ := DataW.trod_int Try.underlying3 g0
      obtain ⟨n1, e1, f1, w1⟩ := DataW.trod_int Try.underlying3 g1
      simp at e0 e1
      subst e0 e1
      exact ⟨n0, n1, rfl⟩
/-- A list of calls that came in. -/
theorem steps_arg {H : Type} {enc : TypeId × Value → H} {W : World} {a0 : Option Addr} {n c : Nat} {d : DataW H} {p : List MemPlace} {ts : List TypeId} {ds : List (DataW H)} (h0 : DataW.Trod enc Try.prog W 0 (fun _ => true) true 34 (.slice a0 n c) d p)
    (hsz : (DataW.weightsEach Try.prog ts ds).all (· ≤ reachBytes) = true) {j : Nat} (ht : ts[j]? = some 34) (hd : ds[j]? = some d) :
    ∃ D N : Nat → Int, StArg W a0 n D N ∧ n ≤ 140737488355328 := by
  have hreach := reach_le
  obtain ⟨fuel, hf⟩ := h0
  rcases Go.Deep.open_slice Try.underlying34 hf with ⟨hcs, _⟩ | ⟨a, len, cap, m, n', D, Pl, hcs, _, hl, hmx, hmm, hx, hcell⟩
  · simp [Value.cells] at hcs
    obtain ⟨rfl, rfl, rfl⟩ := hcs
    exact ⟨fun _ => 0, fun _ => 0, fun k hk => absurd hk (by simp), Nat.zero_le _⟩
  · simp [Value.cells] at hcs
    obtain ⟨rfl, rfl, rfl⟩ := hcs
    rw [cellsStep] at hcell
    simp only [Prod.mk.injEq] at hx
    have hcap := sized_slice hsz (j := j) (t := 34) (e := 41) ht (by rw [hd, hx.1]) Try.underlying34
    simp only [List.length_map, List.length_range, bytesStep] at hcap
    have hel : ∀ i, ∃ y : Int × Int, i < n → W.cells? 0 (a.add (i * 2)) 2 = some [.int .i64 y.1, .int .i64 y.2] := by
      intro i
      by_cases hi : i < n
      · obtain ⟨cs', h1, h2⟩ := hcell i (by rw [hmm]; split <;> omega)
        obtain ⟨d, k, rfl⟩ := call_of_cells h2
        exact ⟨(d, k), fun _ => h1⟩
      · exact ⟨(0, 0), fun h => absurd h hi⟩
    obtain ⟨X, hX⟩ := Classical.axiomOfChoice hel
    refine ⟨fun i => (X i).1, fun i => (X i).2, fun k hk => ?_, by omega⟩
    obtain ⟨b, o, spot⟩ := a
    obtain ⟨_, _, hj⟩ := World.cells?_some (hX k hk)
    have c0 := hj 0 (by decide)
    have c1 := hj 1 (by decide)
    obtain ⟨_, _, hj0⟩ := World.cells?_some (hX 0 (by omega))
    have hspot : spot = none := by simpa [Addr.add] using World.cell?_spot (hj0 0 (by decide))
    subst hspot
    rw [Addr.add_mid, Addr.add_mid] at c0 c1
    refine ⟨b, o, rfl, ?_, by simpa using c0, by simpa using c1⟩
    rcases Nat.lt_or_ge b W.heap.size with h | h
    · exact h
    · simp [World.cell?, Array.getElem?_eq_none h] at c0
end Go.Proofs.Ytijfdnaolgbpmaa
