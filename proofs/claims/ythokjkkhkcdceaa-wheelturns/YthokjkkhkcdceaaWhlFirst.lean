/-
  Walks of first and Next.
-/
import Derived.Test.YthokjkkhkcdceaaWhlMem
namespace Go.Proofs.Ythokjkkhkcdceaa
set_option linter.unusedVariables false
set_option maxRecDepth 100000
open Go.RowKit Go.Lib

/-- the first of a spoke, in memory -/
theorem WhV.head {w : World} {b : Nat} {t : Int} {v : Nat → Value} {l : Sts} (h : WhV w b t v l) {k : Nat} (hk : k < 64) {p : Int × Int} {r : Sts} (e : sp l k = p :: r) :
    ∃ g n c, w.cell? ⟨b, 1 + k, none⟩ = some (.slice (some ⟨g, 0, none⟩) (n + 1) c) ∧ n + 1 ≤ c ∧ c ≤ maxLen ∧ w.cell? ⟨g, 0, none⟩ = some (.int .i64 p.1) ∧ w.cell? ⟨g, 1, none⟩ = some (.int .i64 p.2) := by
  have c := h.cell hk
  obtain ⟨ao, cp, e1, k1, k2, vw⟩ := (h.own hk).view
  rw [e] at e1 k1 vw
  obtain ⟨g, rfl, x1, x2⟩ := vw 0 (by simp)
  exact ⟨g, r.length, cp, by rw [c, e1]; simp, by simpa using k1, k2, by simpa using x1, by simpa using x2⟩

set_option maxHeartbeats 2000000 in
theorem first_any (b : Nat) (t : Int) (v : Nat → Value) (l : Sts) (w : World) (hw : WhV w b t v l) (hs : Srt l) :
    Calls Try.prog 26 #[.pointer (some ⟨b, 0, none⟩)] w fun e w' => Ext w w' ∧
      ((l = [] ∧ e = .returned (.tuple #[.int .i64 0, .bool false])) ∨ ∃ (f : Nat) (p : Int × Int) (r : Sts), l = p :: r ∧ f < 64 ∧ p.2 % 64 = (f : Int) ∧ (∃ r', sp l f = p :: r') ∧ e = .returned (.tuple #[.int .i64 (f : Int), .bool true])) := by
  have HW := hid hw
  have HS := hid hs
  clear hw hs
  go_enter Try.func26, Try.ntmps26
  go_wp2
  go_loopw [4, 5, 6, 7] (fun fi ok _ i wr => ∃ k : Nat, k ≤ 64 ∧ i = .int .i64 (k : Int) ∧ Hid (Ext w wr) ∧ ((fi = .int .i64 0 ∧ ok = .bool false ∧ Hid (NoneIn l k)) ∨ ∃ (f : Nat) (p : Int × Int), fi = .int .i64 (f : Int) ∧ ok = .bool true ∧ f < k ∧ Hid (Least l k f p))) (fun _ _ _ i _ => (64 - intOf i).toNat)
  case atStart => exact ⟨0, by omega, rfl, Ext.refl w, .inl ⟨rfl, rfl, NoneIn.zero l⟩⟩
  case round =>
    obtain ⟨k, hk, rfl, X, hst⟩ := hrel
    by_cases h : k < 64
    · have h2 : (k : Int) < 64 := by omega
      have h3 : (0 : Int) ≤ (k : Int) := by omega
      cases es : sp l k with
      | nil =>
        have c := (HW.out.ext X.out).cell h
        obtain ⟨ao, cp, e1, k1, k2, _⟩ := (HW.out.own h).view
        rw [e1, es] at c
        simp only [List.length_nil] at c
        have ES := hid es
        clear e1 es k1
        rcases hst with ⟨rfl, rfl, N⟩ | ⟨f, p, rfl, rfl, hf, L⟩
        · go_wp2_with fail
          go_roundw
          case rel => exact ⟨k + 1, by omega, by go_num, X, .inl ⟨rfl, rfl, N.out.step ES.out⟩⟩
          case measure => simp [intOf]; omega
        · go_wp2_with fail
          go_roundw
          case rel => exact ⟨k + 1, by omega, by go_num, X, .inr ⟨f, p, rfl, rfl, by omega, L.out.stay ES.out⟩⟩
          case measure => simp [intOf]; omega
      | cons q r =>
        obtain ⟨g, n, cp, c, c1, c2, c3, c4⟩ := (HW.out.ext X.out).head h es
        have ES := hid es
        clear es
        unfold maxLen at c2
        have n0 : ¬ ((n : Int) + 1 = 0) := by omega
        rcases hst with ⟨rfl, rfl, N⟩ | ⟨f, p, rfl, rfl, hf, L⟩
        · go_wp2_with fail
          go_quiet (fail)
          have X2 := hid (X.out.drewN nq)
          go_wp2_with fail
          go_roundw
          case rel => exact ⟨k + 1, by omega, by go_num, X2, .inr ⟨k, q, rfl, rfl, by omega, Least.first HS.out h ES.out N.out⟩⟩
          case measure => simp [intOf]; omega
        · obtain ⟨r', er⟩ := L.out.2.1
          obtain ⟨g', n', cp', d, d1, d2, d3, d4⟩ := (HW.out.ext X.out).head (show f < 64 by omega) er
          unfold maxLen at d2
          have f2 : (f : Int) < 64 := by omega
          have f3 : (0 : Int) ≤ (f : Int) := by omega
          have qp : Hid (q ≠ p) := fun e => by
            have a1 := (mem_sp.1 (show q ∈ sp l k by rw [ES.out]; exact List.mem_cons_self)).2
            have a2 := (mem_sp.1 (show p ∈ sp l f by rw [er]; exact List.mem_cons_self)).2
            rw [e] at a1
            omega
          have O := hid (fun W => order_ext q p W)
          have OL := hid (ord_lt q p)
          generalize ord q p = z at *
          have m1 : ∀ n : Ever wr, n.W.cell? ⟨b, 1 + k, none⟩ = _ := fun n => n.ok.cell c
          have m2 : ∀ n : Ever wr, n.W.cell? ⟨g, 0, none⟩ = _ := fun n => n.ok.cell c3
          have m3 : ∀ n : Ever wr, n.W.cell? ⟨g, 1, none⟩ = _ := fun n => n.ok.cell c4
          have m4 : ∀ n : Ever wr, n.W.cell? ⟨b, 1 + f, none⟩ = _ := fun n => n.ok.cell d
          have m5 : ∀ n : Ever wr, n.W.cell? ⟨g', 0, none⟩ = _ := fun n => n.ok.cell d3
          have m6 : ∀ n : Ever wr, n.W.cell? ⟨g', 1, none⟩ = _ := fun n => n.ok.cell d4
          clear er c3 c4 d d3 d4
          go_wp2_with fail
          refine wp_region_ext (by kernel_rfl) (by kernel_rfl) ?_
          have some := Ever.some wr
          repeat (go_big_quiet_step ((go_at_call 35; refine (O.out _).mono ?_; rintro e w' ⟨rfl, Y⟩; exact ⟨rfl, ⟨_, (Ever.ok _).trans Y⟩, rfl⟩)))
          refine wpQuiet_nil ?_
          rintro w3 ⟨⟨_, x3⟩, rfl⟩
          have X3 := hid (X.out.trans x3)
          clear x3 m1 m2 m3 m4 m5 m6 O some c
          by_cases hz : z < 0
          · go_wp2_with fail
            go_roundw
            case rel => exact ⟨k + 1, by omega, by go_num, X3, .inr ⟨k, q, rfl, rfl, by omega, Least.over HS.out h L.out ES.out (OL.out.1 hz)⟩⟩
            case measure => simp [intOf]; omega
          · go_wp2_with fail
            go_roundw
            case rel => exact ⟨k + 1, by omega, by go_num, X3, .inr ⟨f, p, rfl, rfl, by omega, Least.keep HS.out L.out ES.out (blt.of_not qp.out (fun e => hz (OL.out.2 e)))⟩⟩
            case measure => simp [intOf]; omega
    · obtain rfl : k = 64 := by omega
      rcases hst with ⟨rfl, rfl, N⟩ | ⟨f, p, rfl, rfl, hf, L⟩
      · have N2 := hid N.out.all
        go_wp2_with fail
        go_ret2
        exact ⟨X.out, .inl ⟨N2.out, rfl⟩⟩
      · have N2 := hid (L.out.all HS.out)
        go_wp2_with fail
        go_ret2
        obtain ⟨r, e1, e2⟩ := N2.out
        exact ⟨X.out, .inr ⟨f, p, r, e1, hf, e2, L.out.2.1, rfl⟩⟩

def nextv (l : Sts) : Value := match l with | [] => .tuple #[.int .i64 0, .bool false] | p :: _ => .tuple #[.int .i64 p.2, .bool true]

set_option maxHeartbeats 1000000 in
theorem next_any (b : Nat) (t : Int) (v : Nat → Value) (l : Sts) (w : World) (hw : WhV w b t v l) (hs : Srt l) :
    Calls Try.prog 23 #[.pointer (some ⟨b, 0, none⟩)] w fun e w' => Ext w w' ∧ e = .returned (nextv l) := by
  have F := hid (first_any b t v l w hw hs)
  have HW := hid hw
  clear hw
  go_enter Try.func23, Try.ntmps23
  go_wp2_with fail
  refine F.out.mono ?_
  rintro e w1 ⟨x1, hr⟩
  have X1 := hid x1
  clear F
  rcases hr with ⟨rfl, rfl⟩ | ⟨f, p, r, rfl, hf, e2, ⟨r', er⟩, rfl⟩
  · clear x1
    go_wp2_with fail
    go_ret2
    exact ⟨X1.out, rfl⟩
  · obtain ⟨g, n, cp, c, c1, c2, c3, c4⟩ := (HW.out.ext x1).head hf er
    unfold maxLen at c2
    have i3 : (f : Int) < 64 := by omega
    have i4 : (0 : Int) ≤ (f : Int) := by omega
    clear x1 er e2 c3
    obtain ⟨pi, tk⟩ := p
    simp only at c4
    go_wp2_with fail
    go_ret2
    exact ⟨X1.out, rfl⟩
end Go.Proofs.Ythokjkkhkcdceaa
