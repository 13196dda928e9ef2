/-
  Walk of the statements' small; of the closure that plays ticks.
-/
import Derived.Test.YtadgkhdjjnkfcaaBktPlay
namespace Go.Proofs.Ytadgkhdjjnkfcaa.Bkt
set_option linter.unusedVariables false
set_option maxRecDepth 100000
open Go.RowKit Go.Lib

theorem isum_wrap (a b : Int) : isum a b = wrap64 (a + b) := by unfold isum wrap64; rw [IntKind.wrap_i64]
/-- what small counts -/
def smn (n : Int) (l : List TkS) : Int := l.foldl (fun n o => isum n o.2.2.length) n
theorem smn_take {n : Int} {l : List TkS} {k : Nat} {q : TkS} (h : l[k]? = some q) : smn n (l.take (k + 1)) = isum (smn n (l.take k)) q.2.2.length := by
  rw [List.take_add_one, h]
  unfold smn
  rw [List.foldl_append]; rfl

set_option maxHeartbeats 4000000 in
theorem small_any (w0 w : World) (ao : Option Addr) (cp : Nat) (l : List TkS) (h : Seen w0 ao l) (X : Ext w0 w) (k1 : l.length ≤ cp) (k2 : cp ≤ maxLen) : Calls Try.prog 8 #[.slice ao l.length cp] w fun e w' => e = .returned (.bool (decide (smn l.length l ≤ 300))) ∧ Ext w w' := by
  have OPS := hid h
  have XX := hid X
  have GET : Hid (∀ k, k < l.length → ∃ q : TkS, l[k]? = some q) := fun k hk => ⟨_, List.getElem?_eq_getElem hk⟩
  obtain ⟨N, eN⟩ : ∃ N, N = l.length := ⟨_, rfl⟩
  have Z0 : Hid ((N : Int) = smn N (l.take 0)) := rfl
  have ZN : Hid (smn N (l.take N) = smn N l) := by show _ = _; rw [eN, List.take_length]
  rw [← eN] at GET k1 ⊢
  unfold maxLen at k2
  clear h X eN
  go_enter Try.func8, Try.ntmps8
  go_wp2_with fail
  go_loopw [3, 5, 10] (fun sv _ iv wr => ∃ k : Nat, k ≤ N ∧ iv = .int .i64 (k : Int) ∧ sv = .int .i64 (smn N (l.take k)) ∧ Hid (Ext w wr)) (fun _ _ iv _ => (N - RowKit.intOf iv).toNat)
  case atStart => exact ⟨0, by omega, rfl, by rw [← Z0.out], Ext.refl w⟩
  case round =>
    obtain ⟨k, hk, rfl, rfl, XR⟩ := hrel
    by_cases q : k < N
    · have i1 : (k : Int) < (N : Int) := by omega
      have i2 : (0 : Int) ≤ (k : Int) := by omega
      obtain ⟨o, eo⟩ := GET.out k q
      obtain ⟨wd, ⟨g0, q0, rfl, CC⟩, e1, e2, e3, -⟩ := OPS.out k _ eo
      obtain ⟨y0, y1⟩ := CC _ (XX.out.trans XR.out)
      have ES := hid (smn_take (n := N) eo)
      obtain ⟨m, em⟩ : ∃ m, m = smn N (l.take k) := ⟨_, rfl⟩
      rw [← em] at ES ⊢
      obtain ⟨r, ⟨sa, sn, sc⟩, is⟩ := o
      simp only [sval] at y0 y1 e1 e2 e3 ES wd
      unfold maxLen at e3
      obtain ⟨w0', w1'⟩ := wd
      obtain rfl : sn = is.length := e1
      have X1 := hid (XR.out.trans (bx_ext wr r (.slice sa is.length sc)))
      have r1 := bx_row wr r (.slice sa is.length sc)
      obtain ⟨z0, z1⟩ := row_cells r1
      have E1 : Hid (wr.alloc (.cells #[.int .u64 r, .slice sa is.length sc] 33) = bx wr r (.slice sa is.length sc)) := rfl
      obtain ⟨W1, eW⟩ : ∃ W1, W1 = bx wr r (.slice sa is.length sc) := ⟨_, rfl⟩
      rw [← eW] at X1 E1 z0 z1
      obtain ⟨p, ep⟩ : ∃ p, p = wr.heap.size := ⟨_, rfl⟩
      have EP := hid ep
      rw [← ep] at z0 z1
      obtain ⟨L, eL⟩ : ∃ L : Nat, L = is.length := ⟨_, rfl⟩
      rw [← eL] at ES E1 y1 z1 e2
      clear OPS GET eo CC eW ep r1 em eL
      go_wp2_with (rw [← EP.out, E1.out])
      go_roundw
      case rel => exact ⟨k + 1, by omega, by go_num, by rw [ES.out, isum_wrap], X1⟩
      case measure => simp [RowKit.intOf]; omega
    · obtain rfl : N = k := by omega
      rw [ZN.out]
      clear OPS GET
      go_wp2_with fail
      go_ret
      exact ⟨rfl, XR.out⟩

/-- ticks gone through -/
def plays (s : BS) (l : List TkS) : BS := l.foldl (fun s o => tick s o.1 o.2.2) s
theorem plays_take {s : BS} {l : List TkS} {k : Nat} {q : TkS} (h : l[k]? = some q) : plays s (l.take (k + 1)) = tick (plays s (l.take k)) q.1 q.2.2 := by
  rw [List.take_add_one, h]
  unfold plays
  rw [List.foldl_append]; rfl

set_option maxHeartbeats 8000000 in
theorem play_any (w0 w : World) (b : Nat) (s : BS) (ao : Option Addr) (cp : Nat) (l : List TkS) (h : Seen w0 ao l) (P : PlS w0 b w s) (k1 : l.length ≤ cp) (k2 : cp ≤ maxLen) : Calls Try.prog 22 #[.pointer (some ⟨b, 0, none⟩), .slice ao l.length cp] w fun e w' => e = .returned (.tuple #[]) ∧ PlS w0 b w' (plays s l) ∧ Kept (fun q => q ≠ b) w w' := by
  have OPS := hid h
  have S0 := hid P
  have GET : Hid (∀ k, k < l.length → ∃ q : TkS, l[k]? = some q) := fun k hk => ⟨_, List.getElem?_eq_getElem hk⟩
  obtain ⟨N, eN⟩ : ∃ N, N = l.length := ⟨_, rfl⟩
  have ZN : Hid (plays s (l.take N) = plays s l) := by show _ = _; rw [eN, List.take_length]
  rw [← eN] at GET k1 ⊢
  unfold maxLen at k2
  clear h P eN
  go_enter Try.func22, Try.ntmps22
  go_wp2_with fail
  go_loopw [5, 7, 10, 21] (fun _ _ iv _ wr => ∃ k : Nat, k ≤ N ∧ iv = .int .i64 (k : Int) ∧ Hid (PlS w0 b wr (plays s (l.take k))) ∧ Hid (Kept (fun q => q ≠ b) w wr)) (fun _ _ iv _ _ => (N - RowKit.intOf iv).toNat)
  case atStart => exact ⟨0, by omega, rfl, S0, Kept.refl _ w⟩
  case round =>
    clear S0
    obtain ⟨k, hk, rfl, SR, KR⟩ := hrel
    by_cases q : k < N
    · have i1 : (k : Int) < (N : Int) := by omega
      have i2 : (0 : Int) ≤ (k : Int) := by omega
      obtain ⟨o, eo⟩ := GET.out k q
      obtain ⟨wd, ⟨g0, q0, rfl, CC⟩, e1, e2, e3, SI⟩ := OPS.out k _ eo
      obtain ⟨y0, y1⟩ := CC _ SR.out.2.1
      have ES := hid (plays_take (s := s) eo)
      obtain ⟨t, et⟩ : ∃ t, t = plays s (l.take k) := ⟨_, rfl⟩
      rw [← et] at ES SR
      obtain ⟨r, ⟨sa, sn, sc⟩, is⟩ := o
      simp only [sval] at y0 y1 e1 e2 e3 ES wd SI
      unfold maxLen at e3
      obtain rfl : sn = is.length := e1
      have S1 := hid (SR.out.ext (bx_ext wr r (.slice sa is.length sc)))
      have KB := hid (KR.out.trans (Kept.of_ext (bx_ext wr r (.slice sa is.length sc))))
      have r1 := bx_row wr r (.slice sa is.length sc)
      obtain ⟨z0, z1⟩ := row_cells r1
      have E1 : Hid (wr.alloc (.cells #[.int .u64 r, .slice sa is.length sc] 33) = bx wr r (.slice sa is.length sc)) := rfl
      obtain ⟨W1, eW⟩ : ∃ W1, W1 = bx wr r (.slice sa is.length sc) := ⟨_, rfl⟩
      rw [← eW] at S1 E1 z0 z1 r1 KB
      obtain ⟨p, ep⟩ : ∃ p, p = wr.heap.size := ⟨_, rfl⟩
      have EP := hid ep
      rw [← ep] at z0 z1 r1
      have pb : Hid (p ≠ b) := by have := SR.out.1.lt; show p ≠ b; omega
      have FL := hid (S1.out.fill r wd)
      have R1 := hid r1
      have SII := hid SI
      have GI : Hid (∀ j, j < is.length → ∃ n : Int, is[j]? = some n) := fun j hj => ⟨_, List.getElem?_eq_getElem hj⟩
      obtain ⟨L, eL⟩ : ∃ L : Nat, L = is.length := ⟨_, rfl⟩
      have ET : Hid (∀ u : BS, u = fil t r → Bkt.fin (spl u (is.take L)) = plays s (l.take (k + 1))) := fun u hu => by rw [hu, eL, List.take_length, ES.out]; rfl
      rw [← eL] at E1 y1 z1 R1 e2 GI
      clear OPS GET eo CC eW ep r1 eL et S1 SR KR wd SI ES
      go_wp2_with (rw [← EP.out, E1.out])
      refine FL.out.mono ?_
      rintro e w2 ⟨rfl, t2, k2⟩
      obtain ⟨u, eu⟩ : ∃ u, u = fil t r := ⟨_, rfl⟩
      rw [← eu] at t2
      have EU := hid (ET.out u eu)
      have S2 := hid t2
      have K2 := hid (KB.out.trans k2)
      obtain ⟨x0, x1⟩ := row_cells (k2.row pb.out R1.out)
      clear t2 k2 FL eu ET E1 z0 z1 R1 y0 y1 KB EP
      go_wp2_with fail
      clear x0 x1
      obtain ⟨w8, e8⟩ : ∃ w8, w8 = wr := ⟨_, rfl⟩
      clear e8
      go_loopw [7, 21] (fun _ jv wr => ∃ j : Nat, j ≤ L ∧ jv = .int .i64 (j : Int) ∧ Hid (PlS w0 b wr (spl u (is.take j))) ∧ Hid (Kept (fun q => q ≠ b) w wr)) (fun _ jv _ => (L - RowKit.intOf jv).toNat)
      case atStart => exact ⟨0, by omega, rfl, S2, K2⟩
      case round =>
        clear S2 K2
        obtain ⟨j, hj, rfl, SJ, KJ⟩ := hrel
        by_cases q3 : j < L
        · have j1 : (j : Int) < (L : Int) := by omega
          have j2 : (0 : Int) ≤ (j : Int) := by omega
          obtain ⟨n, en⟩ := GI.out j q3
          obtain ⟨g3, q3, rfl, C3⟩ := SII.out j n en
          have y3 := C3 _ SJ.out.2.1
          have SP := SJ.out.spend n
          rw [← spl_take en] at SP
          have SPE := hid SP
          clear SP GI SII en C3 SJ
          go_wp2_with fail
          refine SPE.out.mono ?_
          rintro e w3 ⟨rfl, t3, k3⟩
          have S3 := hid t3
          have K3 := hid (KJ.out.trans k3)
          clear t3 k3 KJ SPE y3
          go_wp2_with fail
          go_roundw
          case rel => exact ⟨j + 1, by omega, by go_num, S3, K3⟩
          case measure => simp [RowKit.intOf]; omega
        · obtain rfl : L = j := by omega
          have FE := SJ.out.fin
          rw [EU.out] at FE
          have FEN := hid FE
          clear FE GI SII SJ
          go_wp2_with fail
          refine FEN.out.mono ?_
          rintro e w3 ⟨rfl, t3, k3⟩
          have S3 := hid t3
          have K3 := hid (KJ.out.trans k3)
          clear t3 k3 KJ FEN
          go_wp2_with fail
          go_roundw
          case rel => exact ⟨k + 1, by omega, by go_num, S3, K3⟩
          case measure => simp [RowKit.intOf]; omega
    · obtain rfl : N = k := by omega
      rw [ZN.out] at SR
      clear OPS GET
      go_wp2_with fail
      refine bodyPost_end (results_none Try.results22 _ _ _) rfl ?_
      exact ⟨rfl, SR.out, KR.out⟩

/-- rates that came in -/
def RatesIn (w : World) (v : Value) (l : List Int) : Prop := RowK (fun _ => True) w v 1 (fcells ru l) ∧ ∀ x ∈ l, Wd x
end Go.Proofs.Ytadgkhdjjnkfcaa.Bkt
