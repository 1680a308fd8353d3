/-
  What missivelaw06.RunesAlways does, over this seat's program: it answers true.
-/
import Derived.Test.YtoofggofpdlccabDoorRtw
set_option linter.unusedVariables false
namespace Go.Proofs.YtoofggofpdlccabDoor
open Go.RowKit Go.Proofs.Rns

/-- Whether all bytes are below 128. -/
def lowB (l : List UInt8) : Bool := l.all fun c => decide (c.toNat < 128)
theorem lowB_next (s : ByteArray) (k : Nat) (h : k < s.size) : lowB (s.data.toList.take (k + 1)) = (lowB (s.data.toList.take k) && decide (s[k].toNat < 128)) := by
  rw [take_byte s k h]
  simp [lowB]
theorem decL_low {c : Nat} {l : List UInt8} (h : lowB l = true) : decL c l = l.map fun b => b.toNat := by
  have hl : ∀ b ∈ l, b.toNat < 128 := by simpa [lowB] using h
  unfold decL
  split
  · exact lettersL_plain l hl
  · apply List.map_congr_left
    intro b hb
    exact ofB_low (hl b hb)
theorem decL_len (c : Nat) (l : List UInt8) : (decL c l).length ≤ l.length := by
  unfold decL
  split
  · exact lettersL_len l
  · simp

set_option maxHeartbeats 2000000 in
set_option maxRecDepth 100000 in
theorem always_ok (c : Nat) (s : ByteArray) (w : World) (ht : RTab w) (hc : 1 ≤ c ∧ c ≤ 5) (hs : s.size ≤ 1048576) :
    Calls Tryd.prog 6 #[.int .u8 c, .string s] w fun e w' => e = .returned (.bool true) ∧ Below w.heap.size w w' := by
  have HT := hide ht
  have hsl := sizeL s
  have hdl := decL_len c s.data.toList
  have HIS := hide (decL_is c hc.2 s.data.toList)
  have HEM : Hid ((decL c s.data.toList).length = 0 ↔ s.size = 0) := by
    constructor
    · intro h
      rcases Nat.eq_zero_or_pos s.size with h0 | h0
      · exact h0
      · rw [decL_step c (by rw [show s.data.toList = s.data.toList.drop 0 from rfl, drop_byte s 0 h0]; simp)] at h
        simp at h
    · intro h; omega
  have HD := hide (fun W (hW : RTab W) => decode_ok c s W hW hc (by omega))
  have HLO : Hid (lowB s.data.toList = true → decL c s.data.toList = s.data.toList.map fun b => b.toNat) := fun h => decL_low h
  rw [hsl] at hdl
  clear ht hsl
  generalize decL c s.data.toList = l at hdl HIS HEM HD HLO
  go_enter Tryd.func6, Tryd.ntmps6
  go_wp2_with fail
  refine (lives_any _ (unhide HT)).mono ?_
  rintro e w1 ⟨rfl, b1⟩
  have HT1 := hide ((unhide HT).below b1)
  go_wp2_with fail
  refine (unhide HD _ (unhide HT1)).mono ?_
  rintro e w2 ⟨v, rfl, hown, b2⟩
  have hrow := own_rowI hown (unhide HIS)
  obtain ⟨a, cap, rfl, hrange, hcell⟩ := hrow
  have hil : (ints l).length = l.length := by simp [ints]
  rw [hil]
  have HCL := hide hcell
  have HB := hide (belows' b1 b2)
  clear hcell hrange hown b1 b2 HT HT1 HD
  go_wp2
  go_loop [7, 8] (fun x z => ∃ k : Nat, z = .int .i64 k ∧ k ≤ s.size ∧ x = .bool (lowB (s.data.toList.take k))) (fun _ z => s.size - (intOf z).toNat)
  case atStart => exact ⟨0, rfl, Nat.zero_le _, rfl⟩
  case round =>
    obtain ⟨k, rfl, hk, rfl⟩ := hrel
    by_cases hlt : k < s.size
    · have HN := hide (lowB_next s k hlt)
      have hcc := s[k].toNat_lt
      generalize lowB (s.data.toList.take k) = q at HN
      cases q with
      | true =>
        go_wp2
        exact ⟨⟨k + 1, by go_num, by omega, by rw [unhide HN]; simp; omega⟩, by simp [intOf]; omega⟩
      | false =>
        go_wp2
        exact ⟨⟨k + 1, by go_num, by omega, by rw [unhide HN]; simp⟩, by simp [intOf]; omega⟩
    · have hq : lowB (s.data.toList.take k) = lowB s.data.toList := by rw [List.take_of_length_le (by rw [sizeL]; omega)]
      rw [hq]
      clear hq
      have hpl : Hid (lowB s.data.toList = true → l.length = s.size ∧ ∀ j (h : j < l.length) (h' : j < s.size), (ints l)[j]'(by simp [ints]; exact h) = (s[j].toNat : Int)) := by
        intro hlow
        have e := unhide HLO hlow
        refine ⟨by rw [e]; simp, fun j h h' => ?_⟩
        have : l[j] = s[j].toNat := by
          have h1 : l[j]? = (s.data.toList.map fun b => b.toNat)[j]? := by rw [e]
          rw [List.getElem?_eq_getElem h, List.getElem?_map, List.getElem?_eq_getElem (by rw [sizeL]; exact h')] at h1
          simp only [Option.map_some, Option.some.injEq] at h1
          exact h1
        simp [ints, this]
      clear HLO
      generalize lowB s.data.toList = q at hpl
      go_wp2
      go_loop [9, 10, 43] (fun x y z => ∃ k : Nat, z = .int .i64 k ∧ k ≤ l.length) (fun _ _ z => l.length - (intOf z).toNat)
      case atStart => exact ⟨0, rfl, Nat.zero_le _⟩
      case round =>
        obtain ⟨k', rfl, hk'⟩ := hrel
        by_cases hlt' : k' < l.length
        · have hki : k' < (ints l).length := by omega
          have hx : ∃ b off, a = some ⟨b, off, none⟩ ∧ w2.cell? ⟨b, off + k', none⟩ = some (.int .i32 ((ints l)[k']'hki)) := by
            rcases unhide HCL with h | ⟨b, off, ha, hb, hcj⟩
            · have := congrArg List.length h; rw [hil] at this; simp only [List.length_nil] at this; omega
            · exact ⟨b, off, ha, hcj k' (by omega)⟩
          obtain ⟨b, off, rfl, hcx⟩ := hx
          have his : isL ((ints l)[k']'hki) = true := by
            have := unhide HIS l[k'] (List.getElem_mem hlt')
            simpa [ints] using this
          have HI := is_any ((ints l)[k']'hki) w2
          rw [his] at HI
          have HI := hide HI
          have hkk : (k' : Int) < (l.length : Int) := by omega
          cases q with
          | false =>
            generalize (ints l)[k']'hki = n at hcx HI his
            clear his
            go_wp2_with fail
            refine (unhide HI).mono ?_
            rintro e w3 ⟨rfl, rfl⟩
            go_wp2
            exact ⟨⟨k' + 1, by go_num, by omega⟩, by simp [intOf]; omega⟩
          | true =>
            obtain ⟨hls, hall⟩ := unhide hpl rfl
            have hlt2 : k' < s.size := by omega
            have hnn := hall k' hlt' hlt2
            have hne : (((ints l)[k']'hki) != (s[k'].toNat : Int)) = false := by simp [hnn]
            have hcc := s[k'].toNat_lt
            have hge : ¬ (s.size : Int) ≤ (k' : Int) := by omega
            clear hnn hall hls
            generalize (ints l)[k']'hki = n at hcx HI his hne
            clear his
            go_wp2_with fail
            refine (unhide HI).mono ?_
            rintro e w3 ⟨rfl, rfl⟩
            go_wp2
            exact ⟨⟨k' + 1, by go_num, by omega⟩, by simp [intOf]; omega⟩
        · have hle : (l.length : Int) ≤ (s.size : Int) := by omega
          have hem := unhide HEM
          have hE : (s.toList == []) = decide (s.size = 0) := by
            rw [ByteArray.toList_eq]
            have hsl := sizeL s
            by_cases h0 : s.size = 0
            · have : s.data.toList = [] := List.eq_nil_of_length_eq_zero (by omega)
              rw [this]; simp [h0]
            · cases hh : s.data.toList with
              | nil => rw [hh] at hsl; simp at hsl; omega
              | cons x y => simp [h0]
          have hE2 : ((l.length : Int) == 0) = decide (s.size = 0) := by
            rw [Bool.eq_iff_iff]
            simp only [beq_iff_eq, decide_eq_true_eq]
            constructor
            · intro h; exact hem.1 (by omega)
            · intro h; have := hem.2 h; omega
          clear hem HEM HIS HCL
          generalize decide (s.size = 0) = z at hE hE2
          cases q with
          | false =>
            clear hpl
            cases z <;> go_wp2 <;> go_ret <;> exact ⟨rfl, unhide HB⟩
          | true =>
            have hls := (unhide hpl rfl).1
            have hE3 : ((l.length : Int) == (s.size : Int)) = true := by simp [hls]
            clear hpl hls
            cases z <;> go_wp2 <;> go_ret <;> exact ⟨rfl, unhide HB⟩

set_option maxHeartbeats 1000000 in
theorem always_no (c : Nat) (s : ByteArray) (w : World) (ht : RTab w) (hc : ¬ (1 ≤ c ∧ c ≤ 5)) (h256 : c < 256) :
    Calls Tryd.prog 6 #[.int .u8 c, .string s] w fun e w' => e = .returned (.bool true) ∧ Below w.heap.size w w' := by
  have HT := hide ht
  clear ht
  go_enter Tryd.func6, Tryd.ntmps6
  go_wp2_with fail
  refine (lives_any _ (unhide HT)).mono ?_
  rintro e w1 ⟨rfl, b1⟩
  go_wp2_with fail
  refine (decode_no c s _ hc h256).mono ?_
  rintro e w2 ⟨rfl, rfl⟩
  go_wp2
  go_ret
  exact ⟨rfl, b1⟩
end Go.Proofs.YtoofggofpdlccabDoor
