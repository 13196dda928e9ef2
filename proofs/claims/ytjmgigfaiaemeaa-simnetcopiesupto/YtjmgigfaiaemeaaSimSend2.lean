/-
  The walk of Send; what a net's group answers.
-/
import Derived.Test.YtjmgigfaiaemeaaSimSend
namespace Go.Proofs.Ytjmgigfaiaemeaa.Sim
set_option linter.unusedVariables false
set_option maxRecDepth 100000
open Go.RowKit Go.Lib Go.Proofs.Ytjmgigfaiaemeaa.Crc Go.Proofs.Ytjmgigfaiaemeaa.Grp
open Go.Proofs.Ytjmgigfaiaemeaa.Pip hiding NewR

/-- a message to many -/
def gvs (c : Cfg) (fs : List (Int × Int)) (now : Int) (t : List UInt8) (x : St) (m : List Int) : St := m.foldl (fun y (r : Int) => gv c fs now t y r.toNat) x
theorem gvs_snoc (c : Cfg) (fs : List (Int × Int)) (now : Int) (t : List UInt8) (x : St) (m : List Int) (r : Int) : gvs c fs now t x (m ++ [r]) = gv c fs now t (gvs c fs now t x m) r.toNat := by unfold gvs; rw [List.foldl_append]; rfl
theorem gvs_length (c : Cfg) (fs : List (Int × Int)) (now : Int) (t : List UInt8) : ∀ (m : List Int) (x : St), (gvs c fs now t x m).1.length = x.1.length
  | [], x => rfl
  | r :: m, x => by
    have := gvs_length c fs now t m (gv c fs now t x r.toNat)
    rw [gv_length] at this
    exact this
theorem gvs_bound (c : Cfg) (fs : List (Int × Int)) (now : Int) (t : List UInt8) : ∀ (m : List Int) (x : St) (b : Int), SB b x.2.2 → SB (b + 4 * (m.length : Int)) (gvs c fs now t x m).2.2
  | [], x, b, h => h.mono (by simp)
  | r :: m, x, b, h => by
    have := gvs_bound c fs now t m (gv c fs now t x r.toNat) (b + 4) (gv_bound c fs now t x r.toNat h)
    exact this.mono (by simp; omega)
theorem mem_room (j lv : Int) (l : List Tri) (layer now : Int) (n : Nat) (r : Int) (h : r ∈ mem j lv l layer now n) : ∃ i : Nat, r = (i : Int) ∧ i < n := by
  unfold mem at h
  obtain ⟨i, hi, rfl⟩ := List.mem_map.1 h
  exact ⟨i, rfl, List.mem_range.1 (List.mem_filter.1 hi).1⟩

/-- what the group answers -/
theorem NetK.group {K : Nat → Prop} {w : World} {b : Nat} {bs : Nat → Nat} {c : Cfg} {l : List Tri} {fs : List (Int × Int)} {x : St} (h : NetK K w b bs c l fs x) (n : Nat) (hn : c.1 = (n : Int)) :
    ∃ gb, w.cell? ⟨b, 0, none⟩ = some (.pointer (some ⟨gb, 0, none⟩)) ∧
      (∀ a : Tri, Calls Try.prog 13 #[.pointer (some ⟨gb, 0, none⟩), .int .i64 a.1, .int .i64 a.2.1, .int .i64 a.2.2] w fun e w' => e = .returned (.int .i64 (wrg c.2.2.2.1 c.2.2.2.2 n l a)) ∧ NetK K w' b bs c (aft c.2.2.2.1 c.2.2.2.2 n l a) fs x ∧ Kept K w w') ∧
      (∀ layer now : Int, Calls Try.prog 33 #[.pointer (some ⟨gb, 0, none⟩), .int .i64 layer, .int .i64 now] w fun e w' => ∃ v', e = .returned v' ∧ NewR one 3 1 w w' v' (mems c.2.2.2.1 c.2.2.2.2 l layer now n)) := by
  obtain ⟨K2, gb, gg, gc, n', dv, fv, h⟩ := h
  obtain rfl : n = n' := by have := h.1.1; omega
  refine ⟨gb, h.cells 0 _ rfl, fun a => ?_, fun layer now => members_any gb gg gc n _ _ l layer now w h.2.2.1⟩
  refine (ask_any gb gg gc n _ _ l a w h.2.2.1).mono ?_
  rintro e w' ⟨rfl, g, k⟩
  have q := h.grp k g
  exact ⟨rfl, q.1.k, q.2⟩

theorem send_bad {K : Nat → Prop} {w : World} {b : Nat} {bs : Nat → Nat} {c : Cfg} {l : List Tri} {fs : List (Int × Int)} {x : St} (h : NetK K w b bs c l fs x) (layer : Int) (uv : Value) (t : List UInt8) (now : Int) (hu : RowK K w uv 1 (bcells t)) (hb : layer < 0 ∨ 8 ≤ layer ∨ ¬ goes t now) :
    Calls Try.prog 14 #[.pointer (some ⟨b, 0, none⟩), .int .i64 layer, uv, .int .i64 now] w fun e w' => e = .returned (.tuple #[.int .i64 0, .int .i64 11]) ∧ w' = w := by
  obtain ⟨ua, un, uc, eu, _⟩ := id hu
  by_cases q1 : layer < 0
  · subst eu
    clear h hb hu
    go_enter Try.func14, Try.ntmps14
    go_wp2_with fail
    go_ret2
    exact ⟨rfl, rfl⟩
  · by_cases q2 : 8 ≤ layer
    · subst eu
      clear h hb hu
      go_enter Try.func14, Try.ntmps14
      go_wp2_with fail
      go_ret2
      exact ⟨rfl, rfl⟩
    · have M := hid (mayGo_no uv t now w hu (hb.elim (fun h => absurd h q1) (fun h => h.elim (fun h => absurd h q2) id)))
      subst eu
      clear h hb hu
      go_enter Try.func14, Try.ntmps14
      go_wp2_with fail
      refine M.out.mono ?_
      rintro e w1 ⟨rfl, rfl⟩
      go_wp2_with fail
      go_ret2
      exact ⟨rfl, rfl⟩

set_option maxHeartbeats 2000000 in
theorem send_net {K : Nat → Prop} {w : World} {b : Nat} {bs : Nat → Nat} {c : Cfg} {l : List Tri} {fs : List (Int × Int)} {x : St} (h : NetK K w b bs c l fs x) (n : Nat) (hn : c.1 = (n : Int)) (layer : Int) (uv : Value) (t : List UInt8) (now : Int) (hu : RowK K w uv 1 (bcells t)) (hp : Plain uv) (h0 : 0 ≤ layer) (h1 : layer < 8) (hg : goes t now) (hs : SB 700000000 x.2.2) (hfs : fs.length ≤ 1000) (hfb : ∀ f ∈ fs, -9223372036854775808 ≤ f.2 ∧ f.2 ≤ 9223372036854775807) :
    Calls Try.prog 14 #[.pointer (some ⟨b, 0, none⟩), .int .i64 layer, uv, .int .i64 now] w fun e w' => e = .returned (.tuple #[.int .i64 ((mem c.2.2.2.1 c.2.2.2.2 l layer now n).length : Int), .int .i64 0]) ∧ NetK K w' b bs c l fs (gvs c fs now t x (mem c.2.2.2.1 c.2.2.2.2 l layer now n)) ∧ Kept K w w' := by
  have M := hid (mayGo_yes uv t now w hu hg)
  obtain ⟨gb, c0, _, MB⟩ := h.group n hn
  have MM := MB layer now
  rw [show mems c.2.2.2.1 c.2.2.2.2 l layer now n = mem c.2.2.2.1 c.2.2.2.2 l layer now n by unfold mems; rw [if_neg (by omega)]] at MM
  have MS := hid MM
  have MR := hid (mem_room c.2.2.2.1 c.2.2.2.2 l layer now n)
  have n64 : n ≤ 64 := by obtain ⟨n', _, _, _, e1, _, n2, _⟩ := h.down; omega
  have ML : (mem c.2.2.2.1 c.2.2.2.2 l layer now n).length ≤ 64 := Nat.le_trans (mem_length_le ..) n64
  have HH := hid h
  have HU := hid hu
  have HP := hid hp
  have HG := hid hg
  have HS := hid hs
  have HB := hid hfb
  have HN := hid hn
  obtain ⟨ua, un, uc, eu, _⟩ := id hu
  subst eu
  generalize mem c.2.2.2.1 c.2.2.2.2 l layer now n = ms at *
  clear h hu hp hg hs hfb MB MM hn
  obtain ⟨N, eN⟩ : ∃ N, N = ms.length := ⟨_, rfl⟩
  have EN := hid eN
  rw [← eN] at ML
  clear eN
  go_enter Try.func14, Try.ntmps14
  go_wp2_with fail
  refine M.out.mono ?_
  rintro e w1 ⟨rfl, rfl⟩
  go_wp2_with fail
  refine MS.out.mono ?_
  rintro e w2 ⟨v, rfl, nr⟩
  have X2 := hid nr.2.2
  have NR := hid nr
  obtain ⟨ao, cp, ev, k1, k2, vw⟩ := nr.1.view encI
  have VW := hid vw
  rw [← EN.out] at ev k1
  subst ev
  unfold maxLen at k2
  have H2 : Hid (NetK (fun q => K q ∨ New w1 w2 q) w2 b bs c l fs (gvs c fs now t x (ms.take 0))) := HH.out.more X2.out
  clear MS M c0 nr vw
  go_wp2_with fail
  go_loopw [12, 34] (fun _ iv wr => ∃ k : Nat, k ≤ N ∧ iv = .int .i64 (k : Int) ∧ Hid (NetK (fun q => K q ∨ New w1 w2 q) wr b bs c l fs (gvs c fs now t x (ms.take k))) ∧ Hid (Kept (fun q => K q ∨ New w1 w2 q) w2 wr)) (fun _ iv _ => (N - intOf iv).toNat)
  case atStart => exact ⟨0, by omega, rfl, H2, Kept.refl _ _⟩
  case round =>
    obtain ⟨k, hk, rfl, hr, kr⟩ := hrel
    clear H2
    by_cases q : k < N
    · have kl : k < ms.length := by rw [← EN.out]; exact q
      have ek : ms[k]? = some ms[k] := List.getElem?_eq_getElem kl
      obtain ⟨g, eg, hc⟩ := VW.out k _ ek
      obtain ⟨i, ei, hi⟩ := MR.out _ (List.getElem_mem kl)
      have y0 := hc 0 (.int .i64 (i : Int)) (by rw [ei]; rfl)
      subst eg
      have gnew : New w1 w2 g := by
        have := NR.out.2.1 g rfl
        exact ⟨this, NR.out.1.lt rfl⟩
      have y1 : wr.cell? ⟨g, k, none⟩ = some (.int .i64 (i : Int)) := by
        have := kr.out.cell (.inr gnew) y0
        rwa [Nat.mul_one, Nat.add_zero] at this
      obtain ⟨n', gd, od, cap, e1, n1, n2, n3, c2, kk1, kk2, pp, _⟩ := hr.out.down
      obtain rfl : n = n' := by have := HN.out; omega
      have p := pp i hi
      have lx : i < (gvs c fs now t x (ms.take k)).1.length := by omega
      have sb : SB 800000000 (gvs c fs now t x (ms.take k)).2.2 := (gvs_bound c fs now t (ms.take k) x _ HS.out).mono (by rw [List.length_take]; omega)
      have P := hid (npass _ wr b bs c l fs _ hr.out i lx (.slice ua un uc) t now ((HU.out.mono (L := fun q => K q ∨ New w1 w2 q) (by decide) (fun i _ h => .inl h) |>.kept (Kept.of_ext X2.out)).kept kr.out) HP.out HG.out.1 HG.out.2.1 HG.out.2.2 sb hfs HB.out)
      have ET : Hid (gv c fs now t (gvs c fs now t x (ms.take k)) i = gvs c fs now t x (ms.take (k + 1))) := by
        have : ms.take (k + 1) = ms.take k ++ [ms[k]] := by rw [List.take_add_one, ek]; rfl
        show _ = _
        rw [this, gvs_snoc, ei]
        rfl
      have KR := hid kr.out
      have i1 : (k : Int) < (N : Int) := by omega
      have i2 : (0 : Int) ≤ (k : Int) := by omega
      have i3 : (i : Int) < (n : Int) := by omega
      have i4 : (0 : Int) ≤ (i : Int) := by omega
      unfold maxLen at kk2
      clear hr kr y0 hc pp ei lx sb
      go_wp2_with fail
      refine P.out.mono ?_
      rintro e w5 ⟨rfl, h5, k5⟩
      rw [ET.out] at h5
      have H5 := hid h5
      have K5 := hid (KR.out.trans k5)
      clear P h5 k5 KR ET
      go_wp2_with fail
      go_roundw
      case rel => exact ⟨k + 1, by omega, by go_num, H5, K5⟩
      case measure => simp [intOf]; omega
    · obtain rfl : k = N := by omega
      have hr2 := hr.out
      rw [EN.out, List.take_length] at hr2
      have HR := hid hr2
      have KR := hid kr.out
      clear hr kr hr2
      go_wp2_with fail
      go_ret2
      exact ⟨by rw [← EN.out]; rfl, HR.out.less (fun q hq => .inl hq), (Kept.of_ext X2.out).trans (KR.out.mono (fun q hq => .inl hq))⟩
end Go.Proofs.Ytjmgigfaiaemeaa.Sim
