/- alive, of the statements: the chapter's example. -/
import Derived.Test.YtiadggeheiadiaaLM
import Derived.Test.YtiadggeheiadiaaNH
import Derived.Test.YtiadggeheiadiaaNN
import Derived.Test.YtiadggeheiadiaaPC
set_option linter.unusedVariables false
set_option linter.unusedSimpArgs false
namespace Go.Proofs.Ytiadggeheiadiaa
open Go Go.RowKit Oj

def rHalf : Rl := ⟨6, 2, [109, 97, 105, 110], 0⟩
def oMain : Ob := ⟨[111], [mainS [mainR 4]]⟩
theorem ok4 : symOk (mainS [mainR 4]) = true := by decide +kernel
theorem ok5 : symOk (mainS [mainR 5]) = false := by decide +kernel
theorem ok2 : symOk (mainS [mainR 4, rHalf]) = false := by decide +kernel
theorem okO : obOk oMain = true := by decide +kernel
theorem findM : findO oMain [109, 97, 105, 110] = some 0 := by decide +kernel
theorem findX : findO oMain [120] = none := by decide +kernel
theorem namesM : putAll (namesL [oMain, oMain]) = [[109, 97, 105, 110]] := by decide +kernel
theorem noteM : noteOk ⟨3, 0, 0⟩ = false := by decide +kernel
theorem fits4 : syFits (mainS [mainR 4]) := main_fits _ (by decide) (fun j hj => by
  obtain rfl : j = 0 := by simp at hj; exact hj
  exact ⟨by decide, by decide, by decide, by decide⟩)
theorem fits5 : syFits (mainS [mainR 5]) := main_fits _ (by decide) (fun j hj => by
  obtain rfl : j = 0 := by simp at hj; exact hj
  exact ⟨by decide, by decide, by decide, by decide⟩)
theorem fits2 : syFits (mainS [mainR 4, rHalf]) := main_fits _ (by decide) (fun j hj => by
  have : j = 0 ∨ j = 1 := by simp at hj; omega
  rcases this with rfl | rfl
  · exact ⟨by decide, by decide, by decide, by decide⟩
  · exact ⟨by decide, by decide, by decide, by decide⟩)
theorem fitsO : obFits oMain := ⟨by decide, by decide, fun j hj => by
  obtain rfl : j = 0 := by simp [oMain] at hj; exact hj
  exact fits4⟩
theorem fitsOO : obsFit [oMain, oMain] := ⟨by decide, fun j hj => by
  have : j = 0 ∨ j = 1 := by simp at hj; omega
  rcases this with rfl | rfl <;> exact fitsO⟩
end Go.Proofs.Ytiadggeheiadiaa
