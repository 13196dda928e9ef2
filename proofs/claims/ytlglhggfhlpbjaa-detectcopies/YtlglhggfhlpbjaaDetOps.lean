/-
  Calls as arguments: what lies in memory.
-/
import Derived.Test.YtlglhggfhlpbjaaDetSame2
import Derived.Test.YtlglhggfhlpbjaaByteCore
namespace Go.Proofs.Ytlglhggfhlpbjaa.Det
set_option linter.unusedVariables false
set_option maxRecDepth 100000
open Go.RowKit Go.Lib Go.Proofs.Ytlglhggfhlpbjaa.His

def five (o : OpD) : List Value := [.int .i64 o.1, .int .i64 o.2.1, .int .u32 o.2.2.1, .int .i64 o.2.2.2.1, .int .i64 o.2.2.2.2]
theorem encO : Enc five 5 := ⟨by decide, fun _ => rfl, fun x u h => by
  simp only [five, List.mem_cons, List.not_mem_nil, or_false] at h
  rcases h with e | e | e | e | e <;> (subst e; rfl)⟩
theorem five_ocs (o : OpD) : (five o).toArray = ocs o := rfl
def FitO (o : OpD) : Prop := (0 ≤ o.2.2.1 ∧ o.2.2.1 < 4294967296) ∧ (-9223372036854775808 ≤ o.2.1 ∧ o.2.1 ≤ 9223372036854775807)
/-- calls that lie somewhere -/
def OpsIn (w : World) (v : Value) (l : List OpD) : Prop := RowK (fun _ => True) w v 5 (fcells five l) ∧ ∀ o ∈ l, FitO o
theorem OpsIn.slice {w : World} {v : Value} {l : List OpD} (h : OpsIn w v l) : ∃ ao c, v = .slice ao l.length c ∧ l.length ≤ c ∧ c ≤ maxLen := by
  obtain ⟨ao, n, c, e, h1, h2, h3, _⟩ := h.1
  rw [fcells_length encO] at h1
  obtain rfl : l.length = n := by omega
  exact ⟨ao, c, e, h2, h3⟩
/-- the call at place k -/
theorem OpsIn.at {w : World} {ao : Option Addr} {n c : Nat} {l : List OpD} (h : OpsIn w (.slice ao n c) l) {k : Nat} {o : OpD} (hk : l[k]? = some o) : ∃ g p, ao = some ⟨g, p, none⟩ ∧ g < w.heap.size ∧ FitO o ∧ w.rangeAt g (p + k * 5) (five o) := by
  obtain ⟨⟨ao', n', c', e, h1, h2, h3, h4⟩, hf⟩ := h
  simp only [Value.slice.injEq] at e
  obtain ⟨rfl, rfl, rfl⟩ := e
  rw [fcells_length encO] at h1
  have kl := (List.getElem?_eq_some_iff.1 hk).1
  obtain ⟨g, p, ea, _, hc⟩ := h4 (by omega)
  have cell : ∀ j u, (five o)[j]? = some u → w.cell? ⟨g, p + k * 5 + j, none⟩ = some u := fun j u hu => by
    have hj : j < 5 := by
      have := (List.getElem?_eq_some_iff.1 hu).1
      simpa [five] using this
    have := hc (k * 5 + j) u (by rw [fcells_at encO hk hj]; exact hu)
    rwa [show p + k * 5 + j = p + (k * 5 + j) by omega]
  exact ⟨g, p, ea, block_lt_of_cell (cell 0 _ rfl), hf o (List.mem_of_getElem? hk), cell⟩
end Go.Proofs.Ytlglhggfhlpbjaa.Det
