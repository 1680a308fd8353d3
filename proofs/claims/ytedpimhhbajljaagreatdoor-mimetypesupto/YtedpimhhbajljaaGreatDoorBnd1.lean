/-
  What the document's letter, token and front of layer 11 do, over this seat's program.
-/
import Derived.Test.YtedpimhhbajljaaGreatDoorMta
import Derived.Test.YtedpimhhbajljaaGreatDoorRft
import Derived.BigQuiet
import Derived.Test.YtedpimhhbajljaaGreatDoorMmj
set_option linter.unusedVariables false
set_option linter.unusedSimpArgs false
namespace Go.Proofs.YtedpimhhbajljaaGreatDoor
open Go.RowKit Go.Proofs.Hed

set_option maxHeartbeats 4000000 in
theorem refLetter_any (c : UInt8) (w : World) : Calls Tryz.prog 42 #[.int .u8 (c.toNat : Int)] w fun e w' => e = .returned (.bool (tokB c)) ∧ w' = w := by
  by_cases hs : c ∈ spL
  · have key : ∀ c ∈ spL, tokB c = false ∧ (c.toNat = 40 ∨ c.toNat = 41 ∨ c.toNat = 60 ∨ c.toNat = 62 ∨ c.toNat = 64 ∨ c.toNat = 44 ∨ c.toNat = 59 ∨ c.toNat = 58 ∨ c.toNat = 92 ∨ c.toNat = 34 ∨ c.toNat = 47 ∨ c.toNat = 91 ∨ c.toNat = 93 ∨ c.toNat = 63 ∨ c.toNat = 61) := by decide
    obtain ⟨h1, h2⟩ := key c hs
    rw [h1]
    generalize c.toNat = n at h2
    rcases h2 with rfl | rfl | rfl | rfl | rfl | rfl | rfl | rfl | rfl | rfl | rfl | rfl | rfl | rfl | rfl
    all_goals
      go_enter Tryz.func42, Tryz.ntmps42
      go_wp2
      go_ret
      exact ⟨rfl, rfl⟩
  · have h1 : tokB c = decide (33 ≤ c.toNat ∧ c.toNat ≤ 126) := by
      unfold tokB
      have : spL.contains c = false := by simpa using hs
      rw [this]
      simp
    have hne : ∀ d ∈ spL, ¬ (c.toNat : Int) = (d.toNat : Int) := fun d hd e => hs (by
      have : c = d := UInt8.toNat_inj.mp (by omega)
      rw [this]; exact hd)
    have n1 : ¬ (c.toNat : Int) = 40 := hne 40 (by decide)
    have n2 : ¬ (c.toNat : Int) = 41 := hne 41 (by decide)
    have n3 : ¬ (c.toNat : Int) = 60 := hne 60 (by decide)
    have n4 : ¬ (c.toNat : Int) = 62 := hne 62 (by decide)
    have n5 : ¬ (c.toNat : Int) = 64 := hne 64 (by decide)
    have n6 : ¬ (c.toNat : Int) = 44 := hne 44 (by decide)
    have n7 : ¬ (c.toNat : Int) = 59 := hne 59 (by decide)
    have n8 : ¬ (c.toNat : Int) = 58 := hne 58 (by decide)
    have n9 : ¬ (c.toNat : Int) = 92 := hne 92 (by decide)
    have n10 : ¬ (c.toNat : Int) = 34 := hne 34 (by decide)
    have n11 : ¬ (c.toNat : Int) = 47 := hne 47 (by decide)
    have n12 : ¬ (c.toNat : Int) = 91 := hne 91 (by decide)
    have n13 : ¬ (c.toNat : Int) = 93 := hne 93 (by decide)
    have n14 : ¬ (c.toNat : Int) = 63 := hne 63 (by decide)
    have n15 : ¬ (c.toNat : Int) = 61 := hne 61 (by decide)
    rw [h1]
    clear h1 hne hs
    by_cases g1 : 33 ≤ c.toNat
    · have d1 : decide ((c.toNat : Int) ≥ 33) = true := decide_eq_true (by omega)
      by_cases g2 : c.toNat ≤ 126
      · have d2 : decide ((c.toNat : Int) ≤ 126) = true := decide_eq_true (by omega)
        rw [decide_eq_true ⟨g1, g2⟩]
        go_enter Tryz.func42, Tryz.ntmps42
        go_wp2
        go_ret
        exact ⟨rfl, rfl⟩
      · have d2 : decide ((c.toNat : Int) ≤ 126) = false := decide_eq_false (by omega)
        rw [decide_eq_false (by omega : ¬ (33 ≤ c.toNat ∧ c.toNat ≤ 126))]
        go_enter Tryz.func42, Tryz.ntmps42
        go_wp2
        go_ret
        exact ⟨rfl, rfl⟩
    · have d1 : decide ((c.toNat : Int) ≥ 33) = false := decide_eq_false (by omega)
      rw [decide_eq_false (by omega : ¬ (33 ≤ c.toNat ∧ c.toNat ≤ 126))]
      go_enter Tryz.func42, Tryz.ntmps42
      go_wp2
      go_ret
      exact ⟨rfl, rfl⟩

theorem tokN_stop {s : ByteArray} {k : Nat} (hk : k ≤ s.size) (h1 : ∀ j (hj : j < s.size), j < k → tokB s[j] = true) (h2 : ∀ h : k < s.size, tokB (s[k]'h) = false) : tokN s.data.toList = k := by
  by_cases h : k < s.size
  · exact tokN_at _ k (by rw [sizeL]; exact h) (fun j hj hjk => h1 j (by rw [sizeL] at hj; exact hj) hjk) (h2 h)
  · have hk2 : k = s.size := by omega
    subst hk2
    rw [tokN_all _ (fun j hj => h1 j (by rw [sizeL] at hj; exact hj) (by rw [sizeL] at hj; exact hj)), sizeL]
set_option maxHeartbeats 4000000 in
set_option maxRecDepth 100000 in
theorem refToken_any (s : ByteArray) (w : World) (hs : s.size ≤ 281474976710656) : Calls Tryz.prog 18 #[.string s] w fun e w' => e = .returned (.tuple #[.string (s.extract 0 (tokN s.data.toList)), .string (s.extract (tokN s.data.toList) s.size)]) ∧ Below w.heap.size w w' := by
  go_enter Tryz.func18, Tryz.ntmps18
  go_wp2
  go_loopw [4] (fun z wr => ∃ k : Nat, z = .int .i64 k ∧ k ≤ s.size ∧ Hid (∀ j (hj : j < s.size), j < k → tokB s[j] = true) ∧ wr = w) (fun z _ => s.size - (intOf z).toNat)
  case atStart => exact ⟨0, rfl, Nat.zero_le _, hide (fun j hj h => by omega), rfl⟩
  case round =>
    obtain ⟨k, rfl, hk, HE, rfl⟩ := hrel
    have hs1 := fun W => slice_upto s (k : Int) k rfl hk W
    have hs2 := fun W => slice_from s (k : Int) k rfl hk W
    by_cases hlt : k < s.size
    · have hlt' : (k : Int) < (s.size : Int) := by omega
      have HL := hide (fun W => refLetter_any s[k] W)
      cases hb : tokB s[k] with
      | true =>
        rw [hb] at HL
        have HE2 : Hid (∀ j (hj : j < s.size), j < k + 1 → tokB s[j] = true) := hide (fun j hj h => by
          by_cases e : j = k
          · subst e; exact hb
          · exact unhide HE j hj (by omega))
        clear HE hb
        go_wp2_with fail
        refine (unhide HL _).mono ?_
        rintro e w5 ⟨rfl, h5⟩
        subst h5
        clear HL
        go_wp2
        exact ⟨⟨k + 1, by go_num, by omega, HE2, trivial⟩, by simp [intOf]; omega⟩
      | false =>
        rw [hb] at HL
        have HT := hide (tokN_stop hk (unhide HE) (fun _ => hb))
        clear HE hb
        go_wp2_with fail
        refine (unhide HL _).mono ?_
        rintro e w5 ⟨rfl, h5⟩
        subst h5
        clear HL
        go_wp2
        go_quiet (fail)
        go_wp2
        go_ret2
        exact ⟨by rw [unhide HT]; rfl, below_drewN (Below.refl _ _) _⟩
    · have hlt' : ¬ (k : Int) < (s.size : Int) := by omega
      have HT := hide (tokN_stop hk (unhide HE) (fun h => absurd h hlt))
      clear HE
      go_wp2
      go_quiet (fail)
      go_wp2
      go_ret2
      exact ⟨by rw [unhide HT]; rfl, below_drewN (Below.refl _ _) _⟩

set_option maxHeartbeats 4000000 in
set_option maxRecDepth 100000 in
theorem refFront_any (s : ByteArray) (w : World) (hs : s.size ≤ 281474976710656) : Calls Tryz.prog 43 #[.string s] w fun e w' => e = .returned (.string (bts (s.data.toList.dropWhile blM))) ∧ w' = w := by
  obtain ⟨D, hD⟩ : ∃ D, D = s.data.toList.dropWhile blM := ⟨_, rfl⟩
  rw [← hD]
  have HD := hide hD
  clear hD
  go_enter Tryz.func43, Tryz.ntmps43
  go_wp2
  go_loopw [0] (fun z wr => ∃ s1 : ByteArray, z = .string s1 ∧ s1.size ≤ s.size ∧ Hid (s1.data.toList.dropWhile blM = D) ∧ wr = w) (fun z _ => strSz z)
  case atStart => exact ⟨s, rfl, Nat.le_refl _, hide (unhide HD).symm, rfl⟩
  case round =>
    obtain ⟨s1, rfl, hk, HP, rfl⟩ := hrel
    have hem := empty_size s1
    by_cases h0 : s1.size = 0
    · rw [decide_eq_true h0] at hem
      have HX : Hid (s1 = bts D) := hide (by
        have h1 : s1.data.toList = [] := List.eq_nil_of_length_eq_zero (by rw [sizeL]; exact h0)
        rw [← unhide HP, h1]
        exact ext_list (by rw [toList_bts, h1]; rfl))
      clear HP h0
      go_wp2
      go_ret
      exact ⟨by rw [← unhide HX]; rfl, rfl⟩
    · rw [decide_eq_false h0] at hem
      have h1 : 0 < s1.size := by omega
      have h1' : (0 : Int) < (s1.size : Int) := by omega
      have hd := drop_byte s1 0 h1
      rw [List.drop_zero] at hd
      have hsz := size_part s1 1 s1.size (Nat.le_refl _)
      have h2 : (1 : Int) ≤ (s1.size : Int) := by omega
      by_cases hb : blM s1[0] = true
      · have HX : Hid ((s1.extract 1 s1.size).data.toList.dropWhile blM = D) := hide (by rw [← unhide HP, hd, List.dropWhile_cons_of_pos hb, toList_from])
        have hc : s1[0].toNat = 32 ∨ s1[0].toNat = 9 := by
          unfold blM at hb
          simp only [List.contains_cons, List.contains_nil, Bool.or_false, Bool.or_eq_true, beq_iff_eq] at hb
          rcases hb with h | h <;> rw [h]
          · exact Or.inl rfl
          · exact Or.inr rfl
        clear HP hd hb h0
        rcases hc with hc | hc
        · have e1 : (s1[0].toNat : Int) = 32 := by omega
          clear hc
          go_wp2
          exact ⟨⟨_, rfl, by rw [hsz]; omega, HX, trivial⟩, by simp only [strSz]; rw [hsz]; omega⟩
        · have e1 : (s1[0].toNat : Int) = 9 := by omega
          have e2 : ¬ (s1[0].toNat : Int) = 32 := by omega
          clear hc
          go_wp2
          exact ⟨⟨_, rfl, by rw [hsz]; omega, HX, trivial⟩, by simp only [strSz]; rw [hsz]; omega⟩
      · have hbf : blM s1[0] = false := by simpa using hb
        have HX : Hid (s1 = bts D) := hide (by
          rw [← unhide HP, hd, List.dropWhile_cons_of_neg hb]
          rw [← hd, bts_toList])
        have e1 : ¬ (s1[0].toNat : Int) = 32 := fun e => by
          have : s1[0] = 32 := UInt8.toNat_inj.mp (by have : (32 : UInt8).toNat = 32 := rfl; omega)
          rw [this] at hbf; exact absurd hbf (by decide)
        have e2 : ¬ (s1[0].toNat : Int) = 9 := fun e => by
          have : s1[0] = 9 := UInt8.toNat_inj.mp (by have : (9 : UInt8).toNat = 9 := rfl; omega)
          rw [this] at hbf; exact absurd hbf (by decide)
        have b1 : ((s1[0].toNat : Int) == 32) = false := by simpa using e1
        have b2 : ((s1[0].toNat : Int) == 9) = false := by simpa using e2
        clear HP hd hb h0 hbf e1 e2
        go_wp2
        go_ret
        exact ⟨by rw [← unhide HX]; rfl, rfl⟩
end Go.Proofs.YtedpimhhbajljaaGreatDoor

/-
  What Parts of mime tells, as plain mathematics: a stack of texts, of which the first is told next.
-/
set_option linter.unusedVariables false
namespace Go.Proofs.YtedpimhhbajljaaGreatDoor
open Go.RowKit Go.Proofs.Hed

/-- A part as it is told: level, type, charset, coding, body. -/
structure PT where
  lv : Int
  ty : ByteArray
  ch : ByteArray
  co : ByteArray
  bo : ByteArray

/-- What lies on the stack: a level and a text. -/
abbrev SK := Int × ByteArray

def ptOf (p : SK) : PT := ⟨p.1, rdT p.2.data.toList, rdC p.2.data.toList, rdD p.2.data.toList, if (rdK p.1 p.2).length = 0 then rdY p.2 else ⟨#[]⟩⟩
def kidsO (p : SK) : List SK := (rdK p.1 p.2).map fun q => (p.1 + 1, (rdY p.2).extract q.1 q.2)

/-- The parts that are told, f at most. -/
def ptsF : Nat → List SK → List PT
  | 0, _ => []
  | _ + 1, [] => []
  | f + 1, p :: st => ptOf p :: ptsF f (kidsO p ++ st)
def ptsL (s : ByteArray) : List PT := ptsF 256 [(0, s)]

theorem ptsF_len : ∀ (f : Nat) (st : List SK), (ptsF f st).length ≤ f
  | 0, _ => by simp [ptsF]
  | f + 1, [] => by simp [ptsF]
  | f + 1, p :: st => by
    have := ptsF_len f (kidsO p ++ st)
    simp only [ptsF, List.length_cons]
    omega
theorem ptsL_len (s : ByteArray) : (ptsL s).length ≤ 256 := ptsF_len _ _
theorem ptsF_nil (f : Nat) : ptsF f [] = [] := by cases f <;> rfl

/-- How a part lies in memory, told and on the stack. -/
def ptC (p : PT) : List Value := [.int .i64 p.lv, .string p.ty, .string p.ch, .string p.co, .string p.bo]
def skC (p : SK) : List Value := [.int .i64 p.1, .string ⟨#[]⟩, .string ⟨#[]⟩, .string ⟨#[]⟩, .string ⟨#[]⟩, .string p.2]

theorem rdY_size (s : ByteArray) : (rdY s).size ≤ s.size := by
  unfold rdY
  rw [size_part s _ _ (Nat.le_refl _)]
  omega
theorem ext_size (s : ByteArray) (i j : Nat) : (s.extract i j).size ≤ s.size := by
  rw [ByteArray.size_extract]
  omega
/-- What a part's own parts are: one level below, and not greater. -/
theorem kidsO_ok (p : SK) : ∀ q ∈ kidsO p, q.1 = p.1 + 1 ∧ q.2.size ≤ p.2.size := by
  intro q hq
  obtain ⟨k, _, rfl⟩ := List.mem_map.1 hq
  exact ⟨rfl, Nat.le_trans (ext_size _ _ _) (rdY_size _)⟩
theorem kidsO_deep (p : SK) (h : p.1 ≥ 8) : kidsO p = [] := by
  unfold kidsO rdK kidsP
  rw [if_pos h]
  rfl
/-- What holds of all that lies on a stack: levels of 8 at most, texts of n bytes at most. -/
def SkOk (n : Nat) (st : List SK) : Prop := ∀ q ∈ st, 0 ≤ q.1 ∧ q.1 ≤ 8 ∧ q.2.size ≤ n
theorem SkOk.next {n : Nat} {p : SK} {st : List SK} (h : SkOk n (p :: st)) : SkOk n (kidsO p ++ st) := by
  intro q hq
  have hp := h p (by simp)
  rcases List.mem_append.1 hq with hk | hk
  · have := kidsO_ok p q hk
    by_cases h8 : p.1 ≥ 8
    · rw [kidsO_deep p h8] at hk
      simp at hk
    · omega
  · exact h q (by simp [hk])
theorem SkOk.one {n : Nat} {s : ByteArray} (h : s.size ≤ n) : SkOk n [(0, s)] := by
  intro q hq
  rw [List.mem_singleton] at hq
  subst hq
  exact ⟨Int.le_refl 0, by show (0 : Int) ≤ 8; decide, h⟩

/-- The levels of what is told: the first's is that of the stack's first; each is 8 at most. -/
theorem ptsF_levels : ∀ (f : Nat) (st : List SK) (n : Nat), SkOk n st → ∀ p ∈ ptsF f st, 0 ≤ p.lv ∧ p.lv ≤ 8
  | 0, _, _, _, p, hp => by simp [ptsF] at hp
  | f + 1, [], _, _, p, hp => by simp [ptsF] at hp
  | f + 1, q :: st, n, h, p, hp => by
    simp only [ptsF, List.mem_cons] at hp
    rcases hp with rfl | hp
    · have := h q (by simp)
      exact ⟨this.1, this.2.1⟩
    · exact ptsF_levels f _ n h.next p hp

end Go.Proofs.YtedpimhhbajljaaGreatDoor

/-
  What Parts tells of the text that missivelaw11.lives has: plain mathematics, by computing.
-/
set_option linter.unusedVariables false
namespace Go.Proofs.YtedpimhhbajljaaGreatDoor
open Go.RowKit Go.Proofs.Hed

def twoB : ByteArray := { data := (([67, 111, 110, 116, 101, 110, 116, 45, 84, 121, 112, 101, 58, 32, 109, 117, 108, 116, 105, 112, 97, 114, 116, 47, 109, 105, 120, 101, 100, 59, 32, 98, 111, 117, 110, 100].append [97, 114, 121, 61, 98, 10, 10, 120, 10, 45, 45, 98, 10, 10, 111, 110, 101, 10, 45, 45, 98, 10, 67, 111, 110, 116, 101, 110, 116, 45, 84, 121, 112, 101, 58, 32, 84]).append ([101, 120, 116, 47, 72, 84, 77, 76, 59, 32, 99, 104, 97, 114, 115, 101, 116, 61, 34, 85, 84, 70, 45, 56, 34, 10, 67, 111, 110, 116, 101, 110, 116, 45, 84, 114].append [97, 110, 115, 102, 101, 114, 45, 69, 110, 99, 111, 100, 105, 110, 103, 58, 32, 98, 97, 115, 101, 54, 52, 10, 10, 119, 54, 107, 61, 10, 45, 45, 98, 45, 45, 10, 122])).toArray }
def twoP0 : PT := ⟨0, ⟨#[109, 117, 108, 116, 105, 112, 97, 114, 116, 47, 109, 105, 120, 101, 100]⟩, ⟨#[117, 115, 45, 97, 115, 99, 105, 105]⟩, ⟨#[55, 98, 105, 116]⟩, ⟨#[]⟩⟩
def twoP1 : PT := ⟨1, ⟨#[116, 101, 120, 116, 47, 112, 108, 97, 105, 110]⟩, ⟨#[117, 115, 45, 97, 115, 99, 105, 105]⟩, ⟨#[55, 98, 105, 116]⟩, ⟨#[111, 110, 101]⟩⟩
def twoP2 : PT := ⟨1, ⟨#[116, 101, 120, 116, 47, 104, 116, 109, 108]⟩, ⟨#[117, 116, 102, 45, 56]⟩, ⟨#[98, 97, 115, 101, 54, 52]⟩, ⟨#[119, 54, 107, 61]⟩⟩
theorem two_is : ptsL twoB = [twoP0, twoP1, twoP2] := by kernel_rfl
end Go.Proofs.YtedpimhhbajljaaGreatDoor
