/-
  What head.small and head.Like do, over this seat's program.
-/
import Derived.Test.YtihgmpebpkjmkaaGreatDoorBlc
import Derived.BigCall
import Derived.Deep.QuietTactic
import Derived.BigQuiet
import Derived.WalkSmall
set_option linter.unusedVariables false
namespace Go.Proofs.YtihgmpebpkjmkaaGreatDoor
open Go.RowKit

/-- A small letter for a great one. -/
def smB (c : UInt8) : UInt8 := if 65 ≤ c.toNat ∧ c.toNat ≤ 90 then UInt8.ofNat (c.toNat + 32) else c
def smL (l : List UInt8) : List UInt8 := l.map smB
theorem empty_size (s : ByteArray) : s.toList.isEmpty = decide (s.size = 0) := by
  rw [ByteArray.toList_eq, ← sizeL]
  cases s.data.toList <;> simp
theorem retH_b {a b : Bool} (h : a = b) : Ending.returned (.bool a) = .returned (.bool b) := by rw [h]

set_option maxHeartbeats 400000 in
theorem small_any (c : UInt8) (w : World) : Calls Tryz.prog 48 #[.int .u8 (c.toNat : Int)] w fun e w' => e = .returned (.int .u8 ((smB c).toNat : Int)) ∧ w' = w := by
  have hc := c.toNat_lt
  unfold smB
  by_cases h1 : 65 ≤ c.toNat
  · by_cases h2 : c.toNat ≤ 90
    · have e : ((UInt8.ofNat (c.toNat + 32)).toNat : Int) = (c.toNat : Int) + 32 := by simp; omega
      rw [if_pos ⟨h1, h2⟩, e]
      generalize c.toNat = n at *
      go_enter Tryz.func48, Tryz.ntmps48
      go_wp2
      go_ret
      exact ⟨by go_num, rfl⟩
    · rw [if_neg (fun h => h2 h.2)]
      generalize c.toNat = n at *
      go_enter Tryz.func48, Tryz.ntmps48
      go_wp2
      go_ret
      exact ⟨rfl, rfl⟩
  · rw [if_neg (fun h => h1 h.1)]
    generalize c.toNat = n at *
    go_enter Tryz.func48, Tryz.ntmps48
    go_wp2
    go_ret
    exact ⟨rfl, rfl⟩

theorem takeB_next {l r : List UInt8} {k : Nat} (hl : k < l.length) (hr : k < r.length) : l.take (k + 1) = r.take (k + 1) ↔ l.take k = r.take k ∧ l[k] = r[k] := by
  rw [List.take_succ_eq_append_getElem hl, List.take_succ_eq_append_getElem hr]
  constructor
  · intro h
    have := List.append_inj' h rfl
    exact ⟨this.1, by simpa using this.2⟩
  · rintro ⟨h1, h2⟩
    rw [h1, h2]

set_option maxHeartbeats 1000000 in
set_option maxRecDepth 100000 in
theorem like_any (s g : ByteArray) (w : World) (hs : s.size ≤ 281474976710656) (hg : g.size ≤ 281474976710656) :
    Calls Tryz.prog 26 #[.string s, .string g] w fun e w' => e = .returned (.bool (decide (smL s.data.toList = smL g.data.toList))) ∧ ∃ q, w' = w.drewN q := by
  have hsl := sizeL s
  have hgl := sizeL g
  by_cases hsz : s.size = g.size
  · have hb : ((s.size : Int) != (g.size : Int)) = false := by simp [hsz]
    have HSZ := hide hsz
    clear hsz
    go_enter Tryz.func26, Tryz.ntmps26
    go_wp2
    go_loopw [5, 13] (fun x z wr => ∃ k : Nat, z = .int .i64 k ∧ k ≤ s.size ∧ Hid ((smL s.data.toList).take k = (smL g.data.toList).take k) ∧ ∃ q, Hid (wr = w.drewN q)) (fun _ z _ => s.size - (intOf z).toNat)
    case atStart => exact ⟨0, rfl, by omega, hide (by simp), 0, hide rfl⟩
    case round =>
      obtain ⟨k, rfl, hk, HT, q, HQ⟩ := hrel
      by_cases hlt : k < s.size
      · have hltg : k < g.size := by have := unhide HSZ; omega
        have hlt1 : (k : Int) < (s.size : Int) := by omega
        have hlt2 : (k : Int) < (g.size : Int) := by omega
        have gs : (smL s.data.toList)[k]? = some (smB s[k]) := by simp [smL, List.getElem?_eq_getElem (show k < s.data.toList.length by omega)]; rfl
        have gg : (smL g.data.toList)[k]? = some (smB g[k]) := by simp [smL, List.getElem?_eq_getElem (show k < g.data.toList.length by omega)]; rfl
        obtain ⟨ks, es⟩ := List.getElem?_eq_some_iff.mp gs
        obtain ⟨kg, eg⟩ := List.getElem?_eq_some_iff.mp gg
        have hnx := takeB_next ks kg
        rw [es, eg] at hnx
        by_cases he : smB s[k] = smB g[k]
        · have hbq : (((smB s[k]).toNat : Int) != ((smB g[k]).toNat : Int)) = false := by simp [he]
          have HN := hide (hnx.2 ⟨unhide HT, he⟩)
          clear gs gg es eg hnx he hsl hgl
          go_wp2
          go_quiet ((go_at_call 48; exact Calls.quiet_of_same (small_any _ _)))
          go_wp2
          exact ⟨⟨k + 1, by go_num, by omega, HN, q + nq, hide (by rw [unhide HQ]; simp)⟩, by simp [intOf]; omega⟩
        · have hbq : (((smB s[k]).toNat : Int) != ((smB g[k]).toNat : Int)) = true := by
            simp only [bne_iff_ne, ne_eq, Int.ofNat_inj]
            intro h
            exact he (UInt8.toNat_inj.mp h)
          have hfin : decide (smL s.data.toList = smL g.data.toList) = false := by
            rw [decide_eq_false_iff_not]
            intro h
            have := hnx.1 (by rw [h])
            exact he this.2
          have HF := hide hfin
          clear gs gg es eg hnx he hsl hgl hfin
          go_wp2
          go_quiet ((go_at_call 48; exact Calls.quiet_of_same (small_any _ _)))
          go_wp2
          go_ret
          exact ⟨by rw [unhide HF]; rfl, q + nq, by rw [unhide HQ]; simp⟩
      · have hlt1 : ¬ (k : Int) < (s.size : Int) := by omega
        have hfin : decide (smL s.data.toList = smL g.data.toList) = true := by
          rw [decide_eq_true_iff]
          have h1 := unhide HT
          have h2 := unhide HSZ
          rw [List.take_of_length_le (by simp [smL]; omega), List.take_of_length_le (by simp [smL]; omega)] at h1
          exact h1
        have HF := hide hfin
        clear hfin hsl hgl
        go_wp2
        go_ret
        exact ⟨by rw [unhide HF]; rfl, q, unhide HQ⟩
  · have hb : ((s.size : Int) != (g.size : Int)) = true := by simp; omega
    have hfin : decide (smL s.data.toList = smL g.data.toList) = false := by
      rw [decide_eq_false_iff_not]
      intro h
      have := congrArg List.length h
      simp [smL] at this
      omega
    have HF := hide hfin
    clear hfin hsz hsl hgl
    go_enter Tryz.func26, Tryz.ntmps26
    go_wp2
    go_ret
    exact ⟨by rw [unhide HF]; rfl, 0, rfl⟩

end Go.Proofs.YtihgmpebpkjmkaaGreatDoor
