/- Some texts of one proof, one behind the other; each has its own head below. -/
import Derived.Test.YtbpdoiikleaidaaX00
import Derived.Test.YtbpdoiikleaidaaX02
import Derived.Deep.QuietTactic
import Derived.BigQuiet
import Derived.Deep.MidRow
import Derived.Test.YtbpdoiikleaidaaRows
import Derived.ProofKit
import Derived.ShutString
import Derived.ChangeSlices
import Derived.Carry
import Derived.ChangeMaps5
import Derived.Deep.Slices
import Derived.Deep.Strs
import Derived.SizedLaws
import Derived.OpenShut
import Derived.WalkArith
/- Lists of texts in memory. -/
section
set_option linter.unusedVariables false
namespace Go.Proofs.Ytbpdoiikleaidaa
open Go Go.RowKit

/-- A slice that reads as the texts L. -/
def SlAt (w : World) (v : Value) (L : List (List UInt8)) : Prop :=
  ∃ a c, v = .slice a L.length c ∧ (L ≠ [] → ∃ b o, a = some ⟨b, o, none⟩ ∧ b < w.heap.size ∧ ∀ j, j < L.length → w.cell? ⟨b, o + j, none⟩ = some (.string (tx (L.getD j []))))
theorem SlAt.below {w w' : World} {v : Value} {L : List (List UInt8)} (h : SlAt w v L) (hb : Below w.heap.size w w') : SlAt w' v L := by
  obtain ⟨a, c, rfl, h2⟩ := h
  refine ⟨a, c, rfl, fun hl => ?_⟩
  obtain ⟨b, o, rfl, h3, h4⟩ := h2 hl
  exact ⟨b, o, rfl, Nat.lt_of_lt_of_le h3 hb.size, fun j hj => (hb.cell (p := ⟨b, o + j, none⟩) h3).trans (h4 j hj)⟩

theorem getD_get {α : Type} (l : List α) (k : Nat) (d : α) (h : k < l.length) : l.getD k d = l[k] := by simp [List.getD, h]
end Go.Proofs.Ytbpdoiikleaidaa
end

/- What came in, opened; a law's last step (out of obj/FR, pack/PL, pack/PY). -/
section
set_option linter.unusedVariables false
namespace Go.Proofs.Ytbpdoiikleaidaa
open Go Go.ChangeShapes Go.WideShapes Go.ChangeAt Go.RowKit Oj
open Go.ChangeMaps (open_string shut_string)

section
variable {H : Type} {enc : TypeId × Value → H} {P : Program}
/-- law_post, where the arguments lead to memory. -/
theorem law_post_at {f : Func} {s : ChangeSpec} {W W' : World} {args : Array Value} {x : Bool} {ds : List (DataW H)} {before : List MemPlace}
    (hW : DataW.Whole enc P f.params.toList s.vars false W args.toList ds [] before) (hvar : s.vars = []) (hs : s.fn H (ds ++ []) = { results := [.lit (.bool x)], args := ds })
    (hf : f.resultTypes = #[4]) (hty : P.underlying 4 = some .bool)
    (hargs : DataW.TrodAll enc P W' 0 (fun b => decide (b < W.heap.size)) true f.params.toList args.toList ds before) (hb : Below W.heap.size W W') :
    s.post enc P f false true false false W args (.bool x) W' := by
  have hlt : ∀ p ∈ before, p.block < W.heap.size := fun p hp => hW.lt p hp
  have hres : ∀ (b : Nat) (sp : Nat → Bool) (hd : Bool), DataW.TrodAll enc P W' b sp hd f.resultTypes.toList ((Value.bool x).resultList f.resultTypes.size) (s.fn H (ds ++ [])).results [] := by
    intro b sp hd
    rw [hs, hf]
    exact trodAll_mk1 (shut_bool hty x)
  have hargs' : DataW.TrodAll enc P W' 0 (fun b => decide (b < W.heap.size)) true f.params.toList args.toList (s.fn H (ds ++ [])).args before := by
    rw [hs]
    exact hargs
  have hvars : ∀ sp : Nat → Bool, DataW.TrodVars enc P W' sp s.vars (s.fn H (ds ++ [])).vars [] := by
    intro sp
    rw [hs, hvar]
    rfl
  refine ⟨ds, [], before, [], before, [], hW, hres _ _ _, hargs', hvars _, World.keptBut_mono (fun p hp => ⟨hp, Or.inr (by simpa using hp)⟩) (hb.frame (· ∈ before)), fun h => ?_⟩
  cases h
end
theorem laidOut : laidOutB Try.prog = true := by kernel_rfl
theorem own : ownKnob Try.prog.godebug = none := by kernel_rfl

set_option maxRecDepth 100000 in
/-- An object that came in. -/
theorem obj_arg {H : Type} {enc : TypeId × Value → H} {W : World} {b0 : Nat} {v : Value} {d : DataW H} {p : List MemPlace} {spare : Nat → Bool} {held : Bool} (hv : Value.okWide Try.prog W .any b0 24 v) (h0 : DataW.Trod enc Try.prog W 0 spare held 24 v d p) (hs : Sm Try.prog 24 d) :
    ∃ x : Ob, ObAt W v x ∧ obFits x := by
  obtain ⟨cs, rfl, hsz⟩ := okWide_struct Try.underlying24 hv
  obtain ⟨fuel, hf⟩ := h0
  obtain ⟨y, h1, h2, h3⟩ := obj_of hf hs
  refine ⟨y.1, ⟨y.2, ?_, h2⟩, h3⟩
  have e' : cs.toList = obCells y.1 y.2 := by simpa [Value.cells] using h1
  congr 1
  apply Array.toList_inj.1
  exact e'
/-- A slice that came in, and reads as the texts L. -/
def SlArg (w : World) (v : Value) (L : List (List UInt8)) : Prop :=
  (v = .slice none 0 0 ∧ L = []) ∨ ∃ a c, v = .slice (some a) L.length c ∧ (L ≠ [] → ∃ b o, a = ⟨b, o, none⟩ ∧ b < w.heap.size ∧ ∀ j, j < L.length → w.cell? ⟨b, o + j, none⟩ = some (.string (tx (L.getD j []))))
theorem SlArg.slAt {w : World} {v : Value} {L : List (List UInt8)} (h : SlArg w v L) : SlAt w v L := by
  rcases h with ⟨rfl, rfl⟩ | ⟨a, c, rfl, h1⟩
  · exact ⟨none, 0, rfl, fun h => absurd rfl h⟩
  · exact ⟨_, c, rfl, fun hn => by obtain ⟨b, o, rfl, h2, h3⟩ := h1 hn; exact ⟨b, o, rfl, h2, h3⟩⟩
theorem cellsStr : Try.prog.cellsOf 9 = 1 := by kernel_rfl
theorem bytesStr : Try.prog.bytesOf 9 = 16 := by kernel_rfl
theorem weights_mem_all {H : Type} {P : Program} {e : TypeId} : ∀ {l : List (DataW H)} {d : DataW H}, d ∈ l → ∀ n ∈ d.weights P e, n ∈ DataW.weightsAll P e l
  | d0 :: r, d, hd, n, hn => by
    simp only [DataW.weightsAll, List.mem_append]
    rcases List.mem_cons.1 hd with h | h
    · subst h; exact .inl hn
    · exact .inr (weights_mem_all h n hn)
theorem sized_elem {H : Type} {P : Program} {ts : List TypeId} {ds : List (DataW H)} (h : (DataW.weightsEach P ts ds).all (· ≤ reachBytes) = true) {j : Nat} {t e : TypeId} {elems spare : List (DataW H)} {bytes : List UInt8} (ht : ts[j]? = some t)
    (hd : ds[j]? = some (.slice elems spare)) (hu : P.underlying t = some (.slice e)) (hm : (DataW.lit (.string bytes) : DataW H) ∈ elems) : bytes.length ≤ reachBytes := by
  have := List.all_eq_true.1 h _ (DataW.weights_mem_each ht hd bytes.length (by
    simp only [DataW.weights, hu, List.mem_cons, List.mem_append]
    exact .inr (.inl (weights_mem_all hm _ (by simp [DataW.weights])))))
  simpa using this
theorem reach_le : reachBytes ≤ 140737488355328 := by decide
/-- A list of texts that came in. -/
theorem strs_arg {H : Type} {enc : TypeId × Value → H} {W : World} {a0 : Option Addr} {n c : Nat} {d : DataW H} {p : List MemPlace} {ts : List TypeId} {ds : List (DataW H)} (h0 : DataW.Trod enc Try.prog W 0 (fun _ => true) true 37 (.slice a0 n c) d p)
    (hsz : (DataW.weightsEach Try.prog ts ds).all (· ≤ reachBytes) = true) {j : Nat} (ht : ts[j]? = some 37) (hd : ds[j]? = some d) :
    ∃ L : List (List UInt8), SlArg W (.slice a0 n c) L ∧ (∀ j, j < L.length → (L.getD j []).length ≤ 140737488355328) ∧ L.length ≤ 140737488355328 := by
  have hreach := reach_le
  obtain ⟨fuel, hf⟩ := h0
  rcases Go.Deep.open_strs Try.underlying37 Try.underlying9 cellsStr hf with ⟨hcs, hx⟩ | ⟨a, len', cap', mm, Sx, hcs, _, hl, hm, hmm, hx, hcell⟩
  · simp [Value.cells] at hcs
    obtain ⟨rfl, rfl, rfl⟩ := hcs
    exact ⟨[], .inl ⟨rfl, rfl⟩, by intro j hj; simp at hj, by simp⟩
  · simp [Value.cells] at hcs
    obtain ⟨rfl, rfl, rfl⟩ := hcs
    simp only [if_true] at hmm
    subst hmm
    simp only [Prod.mk.injEq] at hx
    have hcap := sized_slice hsz (j := j) (t := 37) (e := 9) ht (by rw [hd, hx.1]) Try.underlying37
    simp only [List.length_map, List.length_range, bytesStr] at hcap
    have hstr : ∀ k, k < n → (Sx k).size ≤ reachBytes := fun k hk => by
      have h := sized_elem hsz (j := j) (t := 37) (e := 9) (bytes := (Sx k).data.toList) ht (by rw [hd, hx.1]) Try.underlying37 (List.mem_map.2 ⟨k, List.mem_range.2 hk, rfl⟩)
      rw [Array.length_toList] at h
      exact h
    have hg : ∀ k, k < n → ((List.range n).map fun k => by' (Sx k)).getD k [] = by' (Sx k) := fun k hk => by simp [List.getD_eq_getElem?_getD, hk]
    have hlen : ((List.range n).map fun k => by' (Sx k)).length = n := by simp
    refine ⟨(List.range n).map fun k => by' (Sx k), .inr ⟨a, _, by rw [hlen], fun hn => ?_⟩, ?_, by rw [hlen]; omega⟩
    · have hn0 : 0 < n := by
        rcases Nat.eq_zero_or_pos n with h | h
        · subst h; exact absurd rfl hn
        · exact h
      obtain ⟨b, o, spot⟩ := a
      have h00 := (hcell 0 (by omega)).1
      have hspot : spot = none := by simpa [Addr.add] using World.cell?_spot h00
      subst hspot
      have hbl : b < W.heap.size := by
        rcases Nat.lt_or_ge b W.heap.size with h | h
        · exact h
        · rw [Addr.add_mid] at h00
          simp [World.cell?, Array.getElem?_eq_none h] at h00
      refine ⟨b, o, rfl, hbl, fun k hk => ?_⟩
      have hk' : k < n := by rwa [hlen] at hk
      rw [hg k hk', tx_by, ← Addr.add_mid]
      exact (hcell k (by omega)).1
    · intro k hk
      have hk' : k < n := by rwa [hlen] at hk
      rw [hg k hk', by_length]
      have := hstr k hk'
      omega
end Go.Proofs.Ytbpdoiikleaidaa
end
