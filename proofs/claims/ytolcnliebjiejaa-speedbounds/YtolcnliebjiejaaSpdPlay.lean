/-
  A speed that is new; walks of Copy, of the reference's Step, of the statements' awake and step; calls as they lie in memory.
-/
import Derived.Test.YtolcnliebjiejaaSpdMem
import Derived.Test.YtolcnliebjiejaaEitherCore
import Derived.BigRegion
namespace Go.Proofs.Ytolcnliebjiejaa.Spd
set_option linter.unusedVariables false
set_option maxRecDepth 100000
open Go.RowKit Go.Lib

theorem ext_kept {w w1 w2 : World} {b : Nat} (e : Ext w w1) (k : Kept (fun q => q ≠ b) w1 w2) (hb : w.heap.size ≤ b) : Ext w w2 :=
  ((Kept.of_ext (K := fun q => q < w.heap.size) e).trans (k.mono (fun q hq e => by omega))).below (Nat.le_refl _) (fun i hi => hi)

/-- a speed at b, new since w -/
def PlS (w : World) (b : Nat) (wr : World) (s : SS) : Prop := SpdV wr b s ∧ Ext w wr ∧ w.heap.size ≤ b
theorem PlS.ext {w : World} {b : Nat} {wr w' : World} {s : SS} (h : PlS w b wr s) (e : Ext wr w') : PlS w b w' s := ⟨h.1.ext e, h.2.1.trans e, h.2.2⟩
theorem PlS.drewN {w : World} {b : Nat} {wr : World} {s : SS} (h : PlS w b wr s) (n : Nat) : PlS w b (wr.drewN n) s := h.ext ((Ext.refl wr).drewN n)
theorem PlS.wrote {w : World} {b : Nat} {wr w' : World} {s s' : SS} (h : PlS w b wr s) (hv : SpdV w' b s') (k : Kept (fun q => q ≠ b) wr w') : PlS w b w' s' := ⟨hv, ext_kept h.2.1 k h.2.2, h.2.2⟩
/-- another one is written -/
theorem PlS.beside {w : World} {b c : Nat} {wr w' : World} {s : SS} (h : PlS w b wr s) (k : Kept (fun q => q ≠ c) wr w') (hc : w.heap.size ≤ c) (hn : b ≠ c) : PlS w b w' s := ⟨h.1.kept k hn, ext_kept h.2.1 k hc, h.2.2⟩
theorem PlS.held {w : World} {b : Nat} {V : World} {s : SS} (p : PlS w b V s) (x a c : Int) (hx : Wd x) (ok : Ok a c) :
    Calls Try.prog 12 #[.pointer (some ⟨b, 0, none⟩), .int .u64 x, .int .i64 a, .int .i64 c] V fun e w' => e = .returned (.int .i64 0) ∧ PlS w b w' (s.1, Spd.held s.1 s.2 x a c) ∧ Kept (fun q => q ≠ b) V w' := by
  refine (held_yes b s x a c V p.1 hx ok).mono ?_
  rintro r w' ⟨rfl, t, k⟩
  exact ⟨rfl, p.wrote t k, k⟩
theorem PlS.free {w : World} {b : Nat} {V : World} {s : SS} (p : PlS w b V s) (x : Int) (t : Bool) (hx : Wd x) :
    Calls Try.prog 15 #[.pointer (some ⟨b, 0, none⟩), .int .u64 x, .bool t] V fun e w' => e = .returned (.tuple #[]) ∧ PlS w b w' (s.1, if t then Spd.free s.1 s.2 x else s.2) ∧ Kept (fun q => q ≠ b) V w' := by
  refine (free_any b s x t V p.1 hx).mono ?_
  rintro r w' ⟨rfl, t, k⟩
  exact ⟨rfl, p.wrote t k, k⟩
theorem PlS.left {w : World} {b : Nat} {V : World} {s : SS} (p : PlS w b V s) :
    Calls Try.prog 16 #[.pointer (some ⟨b, 0, none⟩)] V fun e w' => e = .returned (.tuple #[]) ∧ PlS w b w' (s.1, Spd.left s.1 s.2) ∧ Kept (fun q => q ≠ b) V w' := by
  refine (left_any b s V p.1).mono ?_
  rintro r w' ⟨rfl, t, k⟩
  exact ⟨rfl, p.wrote t k, k⟩

/-! ### a copy -/
set_option maxHeartbeats 2000000 in
theorem copy_any (b : Nat) (s : SS) (w : World) (h : SpdV w b s) : Calls Try.prog 18 #[.pointer (some ⟨b, 0, none⟩)] w fun e w' => ∃ g, e = .returned (.pointer (some ⟨g, 0, none⟩)) ∧ SpdV w' g s ∧ w.heap.size ≤ g ∧ Ext w w' := by
  have RA := hid h.2
  have FI := hid h.1
  have hb := h.lt
  have r4 : (w.alloc (.cells #[.int .u64 0, .int .u64 0] 47)).heap[w.heap.size]? = some (.cells (sr (0, 0)) 47 (0, 0)) := heap_alloc_new w _
  have FIN : Hid (SpdV ((w.alloc (.cells #[.int .u64 0, .int .u64 0] 47)).setRow w.heap.size (sr s)) w.heap.size s ∧ Ext w ((w.alloc (.cells #[.int .u64 0, .int .u64 0] 47)).setRow w.heap.size (sr s))) :=
    ⟨⟨h.1, setRow_heap _ _ _ _ _ _ r4⟩, ((Ext.refl w).alloc _).setRow (Nat.le_refl _) _⟩
  have RB := hid r4
  have ONE := hid (sr_one s)
  clear h r4
  go_enter Try.func18, Try.ntmps18
  go_wp2_with (first
    | refine wpList_load_row rfl 47 (.tmp 5) rfl b rfl 47 _ (0, 0) _ RA.out Try.underlying47 rfl size_s ?_
    | refine wpList_store_row rfl 47 (.tmp 3) _ rfl w.heap.size (sr s) rfl rfl 47 _ RB.out size_s rfl ONE.out ?_)
  go_ret
  exact ⟨_, rfl, FIN.out.1, Nat.le_refl _, FIN.out.2⟩

/-! ### the reference -/
set_option maxHeartbeats 2000000 in
theorem rheld_any (fl r x a c : Int) (w : World) (hf : Wd fl) (hr : Wd r) (hx : Wd x) (ok : Ok a c) : Calls Try.prog 19 #[.int .u64 fl, .int .u64 r, .int .i64 1, .int .u64 x, .int .i64 a, .int .i64 c] w fun e w' => e = .returned (.int .u64 (Spd.held fl r x a c)) ∧ w' = w := by
  have rp := (pace_room ok.1.1 ok.1.2 ok.2.1).1
  have rs := (ssum_room hr rp).1
  have SM := hid (rsum_any hr rp w)
  have LS := hid (rless_any x (ssum r (pace a c)) w)
  have rl := sless_room hx rs
  have eh : Spd.held fl r x a c = sup fl (sless x (ssum r (pace a c))) := rfl
  rw [eh]
  clear eh
  generalize ssum r (pace a c) = u at *
  generalize sless x u = m at *
  obtain ⟨⟨a1, a2⟩, c1, c2⟩ := ok
  have cn : (c == 0) = false := by simp; omega
  have ep : pace a c = a * 4294967296 / c := rfl
  rw [ep] at SM rp
  clear ep
  obtain ⟨m0, m1⟩ := rl
  obtain ⟨f0, f1⟩ := hf
  clear rs hr hx
  obtain ⟨rp0, rp1⟩ := rp
  by_cases q : m < fl
  · rw [show sup fl m = fl from by unfold sup; rw [if_pos q]]
    go_enter Try.func19, Try.ntmps19
    go_wp2_with fail
    refine SM.out.mono ?_
    rintro e w' ⟨rfl, ew⟩
    obtain rfl : w = w' := ew.symm
    go_wp2_with fail
    refine LS.out.mono ?_
    rintro e w' ⟨rfl, ew⟩
    obtain rfl : w = w' := ew.symm
    go_wp2_with fail
    go_ret
    exact ⟨rfl, rfl⟩
  · rw [show sup fl m = m from by unfold sup; rw [if_neg q]]
    go_enter Try.func19, Try.ntmps19
    go_wp2_with fail
    refine SM.out.mono ?_
    rintro e w' ⟨rfl, ew⟩
    obtain rfl : w = w' := ew.symm
    go_wp2_with fail
    refine LS.out.mono ?_
    rintro e w' ⟨rfl, ew⟩
    obtain rfl : w = w' := ew.symm
    go_wp2_with fail
    go_ret
    exact ⟨rfl, rfl⟩

set_option maxHeartbeats 2000000 in
theorem rfree_any (fl r x a c : Int) (w : World) (hf : Wd fl) (hr : Wd r) (hx : Wd x) (hl : fl ≤ r) : Calls Try.prog 19 #[.int .u64 fl, .int .u64 r, .int .i64 2, .int .u64 x, .int .i64 a, .int .i64 c] w fun e w' => e = .returned (.int .u64 (if a = 0 then r else Spd.free fl r x)) ∧ w' = w := by
  by_cases qa : a = 0
  · subst qa
    rw [if_pos rfl]
    go_enter Try.func19, Try.ntmps19
    go_wp2_with fail
    go_ret
    exact ⟨rfl, rfl⟩
  · rw [if_neg qa]
    have an : (a == 0) = false := by simp; omega
    have S1 := hid (rsum_any hr hr w)
    have S2 := hid (rsum_any hx hx w)
    have LS := hid (rless_any (ssum r r) (ssum x x) w)
    have rl := sless_room (ssum_room hr hr).1 (ssum_room hx hx).1
    have eh : Spd.free fl r x = sup fl (sless (ssum r r) (ssum x x)) := rfl
    rw [eh]
    clear eh
    generalize ssum r r = u at *
    generalize ssum x x = y at *
    generalize sless u y = m at *
    obtain ⟨m0, m1⟩ := rl
    obtain ⟨f0, f1⟩ := hf
    clear hr hx hl qa
    by_cases q : m < fl
    case' pos => rw [show sup fl m = fl from by unfold sup; rw [if_pos q]]
    case' neg => rw [show sup fl m = m from by unfold sup; rw [if_neg q]]
    all_goals
      go_enter Try.func19, Try.ntmps19
      go_wp2_with fail
      refine S1.out.mono ?_
      rintro e w' ⟨rfl, ew⟩
      obtain rfl : w = w' := ew.symm
      go_wp2_with fail
      refine S2.out.mono ?_
      rintro e w' ⟨rfl, ew⟩
      obtain rfl : w = w' := ew.symm
      go_wp2_with fail
      refine LS.out.mono ?_
      rintro e w' ⟨rfl, ew⟩
      obtain rfl : w = w' := ew.symm
      go_wp2_with fail
      go_ret
      exact ⟨rfl, rfl⟩

set_option maxHeartbeats 2000000 in
theorem rleft_any (fl r x a c : Int) (w : World) (hf : Wd fl) (hr : Wd r) : Calls Try.prog 19 #[.int .u64 fl, .int .u64 r, .int .i64 3, .int .u64 x, .int .i64 a, .int .i64 c] w fun e w' => e = .returned (.int .u64 (Spd.left fl r)) ∧ w' = w := by
  have eh : Spd.left fl r = sup fl (r / 2) := rfl
  rw [eh]
  clear eh
  obtain ⟨f0, f1⟩ := hf
  obtain ⟨r0, r1⟩ := hr
  by_cases q : r / 2 < fl
  case' pos => rw [show sup fl (r / 2) = fl from by unfold sup; rw [if_pos q]]
  case' neg => rw [show sup fl (r / 2) = r / 2 from by unfold sup; rw [if_neg q]]
  all_goals
    go_enter Try.func19, Try.ntmps19
    go_wp2_with fail
    go_ret
    exact ⟨rfl, rfl⟩

/-! ### awake -/
theorem a1 : Spd.held 8589934592 34359738368 38654705664 10 5 = 38654705664 := by decide +kernel
theorem a2 : Spd.held 8589934592 38654705664 85899345920 10 5 = 47244640256 := by decide +kernel
theorem a3 : Spd.free 8589934592 47244640256 12884901888 = 25769803776 := by decide +kernel
theorem ok105 : Ok 10 5 := by decide
theorem no05 : ¬ Ok 0 5 := by decide
theorem wd_of {x : Int} (h : 0 ≤ x ∧ x ≤ 18446744073709551615) : Wd x := h

set_option maxHeartbeats 4000000 in
theorem awake_any (w : World) : Calls Try.prog 7 #[] w fun e w' => e = .returned (.bool true) ∧ Ext w w' := by
  have OF := hid (fun (n : Int) (p : 0 ≤ n ∧ n < 4294967296) V => of_any n p.1 p.2 V)
  have O2 := hid (fun V => OF.out 2 (by decide) V)
  have O3 := hid (fun V => OF.out 3 (by decide) V)
  have O6 := hid (fun V => OF.out 6 (by decide) V)
  have O8 := hid (fun V => OF.out 8 (by decide) V)
  have O9 := hid (fun V => OF.out 9 (by decide) V)
  have O11 := hid (fun V => OF.out 11 (by decide) V)
  have O20 := hid (fun V => OF.out 20 (by decide) V)
  rw [show (2 : Int) * 4294967296 = 8589934592 from rfl] at O2
  rw [show (3 : Int) * 4294967296 = 12884901888 from rfl] at O3
  rw [show (6 : Int) * 4294967296 = 25769803776 from rfl] at O6
  rw [show (8 : Int) * 4294967296 = 34359738368 from rfl] at O8
  rw [show (9 : Int) * 4294967296 = 38654705664 from rfl] at O9
  rw [show (11 : Int) * 4294967296 = 47244640256 from rfl] at O11
  rw [show (20 : Int) * 4294967296 = 85899345920 from rfl] at O20
  clear OF
  have NW := hid (new_yes 8589934592 34359738368 w (by unfold Wd; decide) (by unfold Wd; decide) (by decide) (by decide))
  have NN := hid (fun V => new_no 0 5 V (.inl rfl))
  go_enter Try.func7, Try.ntmps7
  go_wp2_with fail
  refine (O2.out _).mono ?_
  rintro e w' ⟨rfl, ew⟩
  obtain rfl := ew.symm
  go_wp2_with fail
  refine (O8.out _).mono ?_
  rintro e w' ⟨rfl, ew⟩
  obtain rfl := ew.symm
  go_wp2_with fail
  refine NW.out.mono ?_
  rintro e w1 ⟨b, rfl, t, hb, x1⟩
  have S1 : Hid (PlS w b w1 (8589934592, 34359738368)) := ⟨t, x1, hb⟩
  clear t hb x1 NW
  go_wp2_with fail
  refine (O9.out _).mono ?_
  rintro e w' ⟨rfl, ew⟩
  obtain rfl := ew.symm
  go_wp2_with fail
  refine (S1.out.held 38654705664 10 5 (by unfold Wd; decide) ok105).mono ?_
  rintro e w2 ⟨rfl, S, -⟩
  rw [show Spd.held (8589934592, 34359738368).1 (8589934592, 34359738368).2 38654705664 10 5 = 38654705664 from a1] at S
  have S2 := hid S
  clear S S1
  go_wp2_with fail
  refine (rate_any b _ _ S2.out.1).mono ?_
  rintro e w' ⟨rfl, ew⟩
  obtain rfl := ew.symm
  go_wp2_with fail
  refine (O9.out _).mono ?_
  rintro e w' ⟨rfl, ew⟩
  obtain rfl := ew.symm
  go_wp2_with fail
  refine (O20.out _).mono ?_
  rintro e w' ⟨rfl, ew⟩
  obtain rfl := ew.symm
  go_wp2_with fail
  refine (S2.out.held 85899345920 10 5 (by unfold Wd; decide) ok105).mono ?_
  rintro e w3 ⟨rfl, S, -⟩
  rw [show Spd.held (8589934592, 38654705664).1 (8589934592, 38654705664).2 85899345920 10 5 = 47244640256 from a2] at S
  have S3 := hid S
  clear S S2
  go_wp2_with fail
  refine (rate_any b _ _ S3.out.1).mono ?_
  rintro e w' ⟨rfl, ew⟩
  obtain rfl := ew.symm
  go_wp2_with fail
  refine (O11.out _).mono ?_
  rintro e w' ⟨rfl, ew⟩
  obtain rfl := ew.symm
  go_wp2_with fail
  refine (O3.out _).mono ?_
  rintro e w' ⟨rfl, ew⟩
  obtain rfl := ew.symm
  go_wp2_with fail
  refine (S3.out.free 12884901888 true (by unfold Wd; decide)).mono ?_
  rintro e w4 ⟨rfl, S, -⟩
  rw [if_pos rfl, show Spd.free (8589934592, 47244640256).1 (8589934592, 47244640256).2 12884901888 = 25769803776 from a3] at S
  have S4 := hid S
  clear S S3
  go_wp2_with fail
  refine (NN.out _).mono ?_
  rintro e w' ⟨rfl, ew⟩
  obtain rfl := ew.symm
  go_wp2_with fail
  refine (rate_any b _ _ S4.out.1).mono ?_
  rintro e w' ⟨rfl, ew⟩
  obtain rfl := ew.symm
  go_wp2_with fail
  refine (O6.out _).mono ?_
  rintro e w' ⟨rfl, ew⟩
  obtain rfl := ew.symm
  go_wp2_with fail
  refine (held_no b 1 0 5 _ no05).mono ?_
  rintro e w' ⟨rfl, ew⟩
  obtain rfl := ew
  go_wp2_with fail
  go_ret
  exact ⟨rfl, S4.out.2.1⟩

/-! ### calls in memory -/
/-- kind, two numbers, a rate -/
abbrev OpS := Int × Int × Int × Int
def FitO (o : OpS) : Prop := Wd o.2.2.2
def four (o : OpS) : List Value := [.int .i64 o.1, .int .i64 o.2.1, .int .i64 o.2.2.1, .int .u64 o.2.2.2]
def ocs (o : OpS) : Array Value := #[.int .i64 o.1, .int .i64 o.2.1, .int .i64 o.2.2.1, .int .u64 o.2.2.2]
theorem ocs_one (o : OpS) : (ocs o).all (·.oneCell') = true := by simp [ocs, Value.oneCell']
theorem size_o : (Try.prog.info? 31).map (·.size) = some 4 := by kernel_rfl
theorem encO : Enc four 4 := ⟨by decide, fun _ => rfl, fun x u h => by
  simp only [four, List.mem_cons, List.not_mem_nil, or_false] at h
  rcases h with rfl | rfl | rfl | rfl <;> rfl⟩
/-- calls that came in: their cells, and each one's rate is a word -/
def OpsIn (w : World) (v : Value) (l : List OpS) : Prop := RowK (fun _ => True) w v 4 (fcells four l) ∧ ∀ o ∈ l, FitO o
theorem OpsIn.slice {w : World} {v : Value} {l : List OpS} (h : OpsIn w v l) : ∃ ao c, v = .slice ao l.length c ∧ l.length ≤ c ∧ c ≤ maxLen := by
  obtain ⟨⟨ao, n, c, e, h1, h2, h3, _⟩, _⟩ := h
  rw [fcells_length encO] at h1
  obtain rfl : l.length = n := by omega
  exact ⟨ao, c, e, h2, h3⟩
theorem OpsIn.at {w : World} {ao : Option Addr} {n c : Nat} {l : List OpS} (h : OpsIn w (.slice ao n c) l) {k : Nat} {q : OpS} (hk : l[k]? = some q) :
    ∃ g o, ao = some ⟨g, o, none⟩ ∧ ∀ V, Ext w V → V.cell? ⟨g, o + k * 4, none⟩ = some (.int .i64 q.1) ∧ V.cell? ⟨g, o + k * 4 + 1, none⟩ = some (.int .i64 q.2.1) ∧ V.cell? ⟨g, o + k * 4 + 2, none⟩ = some (.int .i64 q.2.2.1) ∧ V.cell? ⟨g, o + k * 4 + 3, none⟩ = some (.int .u64 q.2.2.2) := by
  obtain ⟨⟨ao', n', c', e, h1, h2, h3, h4⟩, _⟩ := h
  simp only [Value.slice.injEq] at e
  obtain ⟨rfl, rfl, rfl⟩ := e
  rw [fcells_length encO] at h1
  have kl := (List.getElem?_eq_some_iff.1 hk).1
  obtain ⟨g, o, ea, hg, hc⟩ := h4 (by omega)
  have a0 := hc (k * 4 + 0) _ (fcells_at encO hk (j := 0) (by decide))
  have a1 := hc (k * 4 + 1) _ (fcells_at encO hk (j := 1) (by decide))
  have a2 := hc (k * 4 + 2) _ (fcells_at encO hk (j := 2) (by decide))
  have a3 := hc (k * 4 + 3) _ (fcells_at encO hk (j := 3) (by decide))
  rw [← Nat.add_assoc] at a1 a2 a3
  rw [Nat.add_zero] at a0
  exact ⟨g, o, ea, fun V X => ⟨X.cell a0, X.cell a1, X.cell a2, X.cell a3⟩⟩
/-- what a walk needs of calls: each one's cells, in any later world -/
def Seen (w : World) (ao : Option Addr) (l : List OpS) : Prop := ∀ (k : Nat) (q : OpS), l[k]? = some q → FitO q ∧ ∃ g o, ao = some ⟨g, o, none⟩ ∧ ∀ V, Ext w V → V.cell? ⟨g, o + k * 4, none⟩ = some (.int .i64 q.1) ∧ V.cell? ⟨g, o + k * 4 + 1, none⟩ = some (.int .i64 q.2.1) ∧ V.cell? ⟨g, o + k * 4 + 2, none⟩ = some (.int .i64 q.2.2.1) ∧ V.cell? ⟨g, o + k * 4 + 3, none⟩ = some (.int .u64 q.2.2.2)
theorem OpsIn.seen {w : World} {ao : Option Addr} {n c : Nat} {l : List OpS} (h : OpsIn w (.slice ao n c) l) : Seen w ao l := fun k q hk => ⟨h.2 q (List.mem_of_getElem? hk), h.at hk⟩
/-- a floor, a first rate, a limit, a size -/
def ComesIn (v : Value) (z : Int × Int × Int × Int) : Prop := v = .agg #[.int .u64 z.1, .int .u64 z.2.1, .int .u64 z.2.2.1, .int .i64 z.2.2.2] ∧ Wd z.1 ∧ Wd z.2.1 ∧ Wd z.2.2.1

/-- a call's box -/
def bx (wr : World) (k a c x : Int) : World := wr.alloc (.cells #[.int .i64 k, .int .i64 a, .int .i64 c, .int .u64 x] 31)
theorem bx_ext (wr : World) (k a c x : Int) : Ext wr (bx wr k a c x) := (Ext.refl wr).alloc _
theorem bx_row (wr : World) (k a c x : Int) : (bx wr k a c x).heap[wr.heap.size]? = some (.cells (ocs (k, a, c, x)) 31 (0, 0)) := heap_alloc_new wr _
theorem row_cells {V : World} {g : Nat} {k a c x : Int} (r : V.heap[g]? = some (.cells (ocs (k, a, c, x)) 31 (0, 0))) : V.cell? ⟨g, 0, none⟩ = some (.int .i64 k) ∧ V.cell? ⟨g, 1, none⟩ = some (.int .i64 a) ∧ V.cell? ⟨g, 2, none⟩ = some (.int .i64 c) ∧ V.cell? ⟨g, 3, none⟩ = some (.int .u64 x) := by
  refine ⟨?_, ?_, ?_, ?_⟩
  · rw [cell_of_row _ _ 0 _ _ _ r]; rfl
  · rw [cell_of_row _ _ 1 _ _ _ r]; rfl
  · rw [cell_of_row _ _ 2 _ _ _ r]; rfl
  · rw [cell_of_row _ _ 3 _ _ _ r]; rfl
end Go.Proofs.Ytolcnliebjiejaa.Spd
