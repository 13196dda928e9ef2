/-
  slices.Replace, whole.
-/
import Derived.Test.YtbolhkafdgiggaaRngPut4
namespace Go.Proofs.Ytbolhkafdgiggaa
set_option linter.unusedVariables false
open Go.RowKit Go.Lib

theorem replace_any (w : World) (s v : Value) (l vs : Sts) (i j : Nat) (hs : OwnG w s l) (hv : OwnG w v vs) (hne : ∀ k, s.ownBlock = some k → v.ownBlock ≠ some k) (hvb : v.ownBlock ≠ none) (hij : i ≤ j) (hj : j ≤ l.length) (hl : l.length ≤ 20000) (hm : vs.length ≤ 20000) :
    Calls Try.prog 35 #[s, .int .i64 i, .int .i64 j, v] w fun e w' => ∃ s', e = .returned s' ∧ Turned w w' s s' (l.take i ++ vs ++ l.drop j) := by
  rcases Nat.eq_or_lt_of_le hij with he | hlt
  · subst he
    exact replace_none w s v l vs i hs hv hne hj hl hm
  · rcases hs.at with ⟨rfl, rfl⟩ | ⟨g, cap, L, rfl, g1, g2, g3, g4, g5⟩
    · simp at hj; omega
    · rcases hv.at with ⟨rfl, rfl⟩ | ⟨vb, vc, V, rfl, v1, v2, v3, v4, v5⟩
      · exact absurd rfl hvb
      · have hvg : vb ≠ g := fun e => hne g rfl (by rw [e]; rfl)
        by_cases h1 : j = l.length
        · subst h1
          rw [List.drop_length, List.append_nil]
          by_cases h2 : i + vs.length < l.length
          · refine (replace_less g l.length cap i vb vs.length vc l vs L V w g1 g4 rfl g5 v1 rfl v5 h2 g2 g3 hl).mono ?_
            rintro e w' ⟨rfl, o, gb⟩
            exact ⟨_, rfl, o, gb, .inl rfl⟩
          · exact replace_end g l.length cap i vb vs.length vc l vs L V w g1 g4 rfl g5 v1 rfl v5 hlt (by omega) g2 g3 hl hm
        · by_cases h2 : i + vs.length + (l.length - j) ≤ cap
          · by_cases h3 : i + vs.length ≤ j
            · refine (replace_fit g l.length cap i j vb vs.length vc l vs L V w g1 g4 rfl g5 v1 rfl v5 hvg hlt (by omega) h2 h3 g2 g3 hl hm).mono ?_
              rintro e w' ⟨rfl, o, gb⟩
              exact ⟨_, rfl, o, gb, .inl rfl⟩
            · refine (replace_wide g l.length cap i j vb vs.length vc l vs L V w g1 g4 rfl g5 v1 rfl v5 hvg hlt (by omega) h2 (by omega) g2 g3 hl hm).mono ?_
              rintro e w' ⟨rfl, o, gb⟩
              exact ⟨_, rfl, o, gb, .inl rfl⟩
          · refine (replace_grow g l.length cap i j vb vs.length vc l vs L V w g1 rfl g5 v1 rfl v5 hlt (by omega) (by omega) g2 hl hm).mono ?_
            rintro e w' ⟨c', rfl, o, gb⟩
            exact ⟨_, rfl, o, gb, .inr ⟨_, rfl, Nat.le_refl _⟩⟩
end Go.Proofs.Ytbolhkafdgiggaa
