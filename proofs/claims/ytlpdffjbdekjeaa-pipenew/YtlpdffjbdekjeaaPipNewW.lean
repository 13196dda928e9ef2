/-
  The walk of PipeNew: there are pipes of just the rooms that the document allows, and so many messages fit.
-/
import Derived.Test.YtlpdffjbdekjeaaPipAwake
namespace Go.Proofs.Ytlpdffjbdekjeaa
set_option linter.unusedVariables false
open Go.RowKit Go.Lib
theorem ext_kept {K : Nat → Prop} {w W w2 : World} (h : Ext w W) (k : Kept K W w2) (hK : ∀ i, i < w.heap.size → K i) : Ext w w2 := Below.trans h (k.below h.size hK)
end Go.Proofs.Ytlpdffjbdekjeaa
namespace Go.Proofs.Ytlpdffjbdekjeaa.pipeNew
set_option linter.unusedVariables false
set_option maxRecDepth 100000
open Go.RowKit Go.Lib

set_option maxHeartbeats 2000000 in
theorem walk (room : Int) (w : World) : Calls Try.prog 6 #[.int .i64 room] w fun e w' => e = .returned (.bool true) ∧ Ext w w' := by
  have AW := hid (fun W => awake_any W)
  by_cases hb : room < 1 ∨ 256 < room
  · have NB := hid (new_bad room w hb)
    by_cases h1 : room < 1
    · clear hb
      go_enter Try.func6, Try.ntmps6
      go_wp2_with fail
      refine NB.out.mono ?_
      rintro e w1 ⟨rfl, rfl⟩
      clear NB
      go_wp2_with fail
      refine (AW.out _).mono ?_
      rintro e w2 ⟨rfl, x2⟩
      have X2 := hid x2
      clear x2
      go_wp2_with fail
      go_ret
      exact ⟨rfl, X2.out⟩
    · have h2 : 256 < room := by omega
      clear hb
      go_enter Try.func6, Try.ntmps6
      go_wp2_with fail
      refine NB.out.mono ?_
      rintro e w1 ⟨rfl, rfl⟩
      clear NB
      go_wp2_with fail
      refine (AW.out _).mono ?_
      rintro e w2 ⟨rfl, x2⟩
      have X2 := hid x2
      clear x2
      go_wp2_with fail
      go_ret
      exact ⟨rfl, X2.out⟩
  · have h1 : ¬ room < 1 := by omega
    have h2 : ¬ 256 < room := by omega
    clear hb
    have N := hid (new_any room w h1 h2)
    have NP := hid (new_pipe room w h1 h2)
    have X1 : Hid (Ext w (w.alloc (.cells #[.int .i64 room, .slice none 0 0] 50 (0, 0)))) := (Ext.refl w).alloc _
    go_enter Try.func6, Try.ntmps6
    go_wp2_with fail
    refine N.out.mono ?_
    rintro e w1 ⟨rfl, rfl⟩
    generalize w.alloc (.cells #[.int .i64 room, .slice none 0 0] 50 (0, 0)) = w1 at *
    obtain ⟨b, eb⟩ : ∃ b, b = w.heap.size := ⟨_, rfl⟩
    rw [← eb]
    rw [← eb] at NP
    have EB := hid eb
    clear eb N
    go_wp2_with fail
    go_loopw [5, 33] (fun _ i wr => ∃ (k : Nat) (l : Ms), (k : Int) ≤ room ∧ i = .int .i64 (k : Int) ∧ Hid (PipK (fun i => i < b) wr b room l ∧ l.length = k ∧ Ext w wr)) (fun _ i _ => (room - intOf i).toNat)
    case atStart => exact ⟨0, [], by omega, rfl, NP.out, rfl, X1.out⟩
    case round =>
      obtain ⟨k, l, hk, rfl, S⟩ := hrel
      clear NP X1
      by_cases h : (k : Int) < room
      · obtain ⟨s1, s2, s3⟩ := S.out
        have nk : (k : Int) = (((UInt8.ofNat k).toNat : Nat) : Int) := by
          rw [UInt8.toNat_ofNat']
          omega
        have PA := hid (put_any _ b room ((k : Int) % 7) l (.slice (some ⟨wr.heap.size, 0, none⟩) 1 1) [UInt8.ofNat k] (wr.alloc (.cells #[.int .u8 (k : Int)] 5)) (s1.ext ((Ext.refl wr).alloc _)) (bytes_one nk (heap_alloc_new wr _)) (.inr ⟨_, _, _, rfl⟩) (by omega) (by omega) (by simp) (by omega))
        have XA := hid (s3.alloc (.cells #[.int .u8 (k : Int)] 5))
        have LL : Hid (∀ m, (ins l m).length = k + 1) := fun m => by rw [ins_length, s2]
        clear S s1 s2 s3 nk
        go_wp2_with fail
        refine PA.out.mono ?_
        rintro e w2 ⟨rfl, u2, k2⟩
        have S2 : Hid (PipK (fun i => i < b) w2 b room (ins l ((k : Int) % 7, [UInt8.ofNat k])) ∧ (ins l ((k : Int) % 7, [UInt8.ofNat k])).length = k + 1 ∧ Ext w w2) := ⟨u2, LL.out _, ext_kept XA.out k2 (fun i hi => by have := EB.out; omega)⟩
        clear PA u2 k2 LL XA
        go_wp2_with fail
        go_roundw
        case rel => exact ⟨k + 1, _, by omega, by go_num, S2⟩
        case measure => simp [intOf]; omega
      · obtain rfl : room = (k : Int) := by omega
        obtain ⟨s1, s2, s3⟩ := S.out
        have PF := hid (put_full _ b (k : Int) 0 l (.slice none 0 0) [] wr s1 ⟨none, 0, rfl, Nat.le_refl _, Nat.zero_le _, fun q hq => by simp at hq⟩ (by omega) (by omega) (by simp) (by omega))
        have S1 := hid s1
        have S3 := hid s3
        have KK : Hid (l.length = k) := s2
        clear S s1 s2 s3
        go_wp2_with fail
        refine PF.out.mono ?_
        rintro e w2 ⟨rfl, x2⟩
        obtain ⟨hr, v, ml, hu, eml⟩ := S1.out.ext x2
        have X2 := hid (S3.out.trans x2)
        have lm : ml.length = k := by rw [← KK.out, ← eml, List.length_map]
        have R2 := room_any b (k : Int) v ml w2 hu.1 ⟨hr.1, hr.2.1⟩ (by omega)
        rw [lm, Int.sub_self] at R2
        have RR2 := hid R2
        have HU := hid hu
        have LM := hid lm
        clear PF S1 S3 x2 hr hu eml R2 lm KK
        go_wp2_with fail
        refine RR2.out.mono ?_
        rintro e w3 ⟨rfl, m3, ew3⟩
        have x3 : Ext w2 w3 := by rw [ew3]; exact (Ext.refl w2).drewN m3
        have X3 := hid (X2.out.trans x3)
        have C := clear_any _ b (k : Int) v ml w3 (HU.out.ext x3) (by have := LM.out; omega)
        rw [LM.out] at C
        have CC := hid C
        clear RR2 ew3 x3 C HU LM X2
        go_wp2_with fail
        refine CC.out.mono ?_
        rintro e w4 ⟨rfl, v4, u4, k4⟩
        have X4 := hid (ext_kept X3.out k4 (fun i hi => by have := EB.out; omega))
        have R4 := room_any b (k : Int) v4 [] w4 u4.1 ⟨by omega, by omega⟩ (by simp)
        rw [List.length_nil, Int.ofNat_zero, Int.sub_zero] at R4
        have RR4 := hid R4
        clear CC u4 k4 R4 X3
        go_wp2_with fail
        refine RR4.out.mono ?_
        rintro e w5 ⟨rfl, m5, ew5⟩
        have X5 : Hid (Ext w w5) := by rw [ew5]; exact X4.out.drewN m5
        clear RR4 ew5
        go_wp2_with fail
        refine (AW.out _).mono ?_
        rintro e w6 ⟨rfl, x6⟩
        have X6 := hid (X5.out.trans x6)
        clear x6
        go_wp2_with fail
        go_ret
        exact ⟨rfl, X6.out⟩
end Go.Proofs.Ytlpdffjbdekjeaa.pipeNew
