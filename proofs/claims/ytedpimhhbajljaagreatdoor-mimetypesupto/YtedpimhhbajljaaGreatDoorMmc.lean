/-
  What mime's readQuoted and readValue do, over this seat's program.
-/
import Derived.Test.YtedpimhhbajljaaGreatDoorMmb
import Derived.Deep.RegionHeld3
set_option linter.unusedVariables false
set_option linter.unusedSimpArgs false
namespace Go.Proofs.YtedpimhhbajljaaGreatDoor
open Go.RowKit Go.Proofs.Hed

theorem drop_byteM {s : ByteArray} {k : Nat} (h : k < s.size) : s.data.toList.drop k = s[k] :: s.data.toList.drop (k + 1) := by
  have hk : k < s.data.toList.length := by have := sizeL s; omega
  rw [List.drop_eq_getElem_cons hk]
  rfl
theorem qdF_cons (e : Bool) (acc : List UInt8) (c : UInt8) (r : List UInt8) : qdF e acc (c :: r) = if c.toNat = 34 ∧ e = false then some (acc, r) else if c.toNat = 92 ∧ e = false then qdF true acc r else qdF false (acc ++ [c]) r := by
  have h1 : (c = 34) ↔ (c.toNat = 34) := ⟨fun h => by rw [h]; rfl, fun h => UInt8.toNat_inj.1 h⟩
  have h2 : (c = 92) ↔ (c.toNat = 92) := ⟨fun h => by rw [h]; rfl, fun h => UInt8.toNat_inj.1 h⟩
  rw [qdF]
  simp only [h1, h2]
/-- What readQuoted and readValue tell. -/
def qdV (r : Option (List UInt8 × List UInt8)) : Value := match r with
  | none => .tuple #[.string ⟨#[]⟩, .string ⟨#[]⟩, .bool false]
  | some (v, t) => .tuple #[.string (bts v), .string (bts t), .bool true]
set_option maxHeartbeats 2000000 in
set_option maxRecDepth 100000 in
theorem readQuoted_any (s : ByteArray) (w : World) (hs : s.size ≤ 1099511627776) :
    Calls Tryz.prog 92 #[.string s] w fun e w' => e = .returned (qdV (qdF false [] s.data.toList)) ∧ Below w.heap.size w w' := by
  have hsl := sizeL s
  have HW0 := hide (Wr.new w)
  generalize hres : qdV (qdF false [] s.data.toList) = res
  have HRES := hide hres
  clear hres
  go_enter Tryz.func92, Tryz.ntmps92
  go_wp2
  go_loopw [6, 7, 10] (fun x y z wr => ∃ (k : Nat) (esc : Bool) (acc : List UInt8), z = .int .i64 k ∧ x = .bool esc ∧ k ≤ s.size ∧ acc.length ≤ k ∧ Hid (qdV (qdF esc acc (s.data.toList.drop k)) = res) ∧ Hid (Wr w wr acc)) (fun _ _ z _ => s.size - (intOf z).toNat)
  case atStart => exact ⟨0, false, [], rfl, rfl, by omega, by simp, HRES, HW0⟩
  case round =>
    obtain ⟨k, esc, acc, rfl, rfl, hk, hal, HQ, HR⟩ := hrel
    by_cases hlt : k < s.size
    · have hlt1 : (k : Int) < (s.size : Int) := by omega
      have hq := unhide HQ
      rw [drop_byteM hlt, qdF_cons] at hq
      have HB := hide (wByte (unhide HR) s[k] (s[k].toNat : Int) rfl (by omega))
      have HS : Hid (∀ W, Below wr.heap.size wr W → Calls Tryz.prog 38 #[.pointer (some ⟨w.heap.size, 0, none⟩)] W fun e w' => e = .returned (.string (bts acc)) ∧ Below w.heap.size w w') := hide (fun W hW => (Tryz.Builder_String_any_k w.heap.size w.heap.size acc W ((unhide HR).below hW).isb ((unhide HR).below hW).bel.size).mono (fun e w' h => ⟨h.1, ((unhide HR).below hW).bel.trans h.2.2.1⟩))
      clear HQ
      obtain ⟨x, hx⟩ : ∃ x, s[k].toNat = x := ⟨_, rfl⟩
      rw [hx] at hq HB
      cases esc with
      | true =>
        rw [if_neg (by simp), if_neg (by simp)] at hq
        have HQ2 := hide hq
        clear hq HS
        by_cases a1 : x = 34
        · have e1 : ((x : Int) == 34) = true := by simp [a1]
          have e2 : ((x : Int) == 92) = false := by simp; omega
          clear a1
          go_wp2_with fail
          refine (unhide HB).mono ?_
          rintro e w2 ⟨rfl, hw2⟩
          have HW2 := hide hw2
          clear hw2 HB
          go_wp2
          exact ⟨⟨k + 1, false, acc ++ [s[k]], by go_num, rfl, by omega, by simp; omega, HQ2, HW2⟩, by simp [intOf]; omega⟩
        · have e1 : ((x : Int) == 34) = false := by simp; omega
          by_cases a2 : x = 92
          · have e2 : ((x : Int) == 92) = true := by simp [a2]
            clear a1 a2
            go_wp2_with fail
            refine (unhide HB).mono ?_
            rintro e w2 ⟨rfl, hw2⟩
            have HW2 := hide hw2
            clear hw2 HB
            go_wp2
            exact ⟨⟨k + 1, false, acc ++ [s[k]], by go_num, rfl, by omega, by simp; omega, HQ2, HW2⟩, by simp [intOf]; omega⟩
          · have e2 : ((x : Int) == 92) = false := by simp; omega
            clear a1 a2
            go_wp2_with fail
            refine (unhide HB).mono ?_
            rintro e w2 ⟨rfl, hw2⟩
            have HW2 := hide hw2
            clear hw2 HB
            go_wp2
            exact ⟨⟨k + 1, false, acc ++ [s[k]], by go_num, rfl, by omega, by simp; omega, HQ2, HW2⟩, by simp [intOf]; omega⟩
      | false =>
        by_cases a1 : x = 34
        · rw [if_pos ⟨a1, rfl⟩] at hq
          have e1 : ((x : Int) == 34) = true := by simp [a1]
          obtain ⟨k1, hk1⟩ : ∃ k1, k1 = k + 1 := ⟨_, rfl⟩
          have e4 : IntKind.i64.wrap ((k : Int) + 1) = (k1 : Int) := by rw [IntKind.wrap_i64]; omega
          have HSL := fun W => slice_from s (k1 : Int) k1 rfl (by omega) W
          have e5 : bts (s.data.toList.drop (k + 1)) = s.extract k1 s.size := by
            apply ext_list
            rw [toList_bts, toList_from, hk1]
          have HF : Hid (res = .tuple #[.string (bts acc), .string (s.extract k1 s.size), .bool true]) := hide (by rw [← hq, ← e5]; rfl)
          have hdr : Below wr.heap.size wr wr.drew := ⟨rfl, rfl, rfl, Nat.le_refl _, fun _ _ => rfl⟩
          clear hq a1 hk1 e5 HB
          go_wp2
          refine wp_region_held_drew (S := fun _ => True) (by kernel_rfl) ?_ (fun hHeld => ?_)
          · trivial
          refine wpAnyH_take (i := 1) (v := .string s) rfl (by kernel_rfl) (by kernel_rfl) (by kernel_rfl) (fun _ _ _ h => h) (Or.inl ⟨by rfl, fun wS hSw => ?_⟩) (by assumption) ?_
          · (try dsimp only at hSw); go_simp
          (try simp only [Act.put, List.setIfInBounds_toArray, List.set_cons_zero, List.set_cons_succ])
          refine wpAnyH_take (i := 2) (v := .int .i64 (k : Int)) rfl (by kernel_rfl) (by kernel_rfl) (by kernel_rfl) (fun _ _ _ h => h) (Or.inl ⟨by rfl, fun wS hSw => ?_⟩) (by assumption) ?_
          · (try dsimp only at hSw); go_simp
          (try simp only [Act.put, List.setIfInBounds_toArray, List.set_cons_zero, List.set_cons_succ])
          refine wpAnyH_take (i := 3) (v := .int .i64 (k1 : Int)) rfl (by kernel_rfl) (by kernel_rfl) (by kernel_rfl) (fun _ _ _ h => h) (Or.inl ⟨by rfl, fun wS hSw => ?_⟩) (by assumption) ?_
          · (try dsimp only at hSw); go_simp
          (try simp only [Act.put, List.setIfInBounds_toArray, List.set_cons_zero, List.set_cons_succ])
          refine wpAnyH_take (i := 4) (v := .string (s.extract k1 s.size)) rfl (by kernel_rfl) (by kernel_rfl) (by kernel_rfl) (fun _ _ _ h => h) (Or.inl ⟨by rfl, fun wS hSw => ?_⟩) (by assumption) ?_
          · (try dsimp only at hSw); go_simp
          (try simp only [Act.put, List.setIfInBounds_toArray, List.set_cons_zero, List.set_cons_succ])
          refine wpAnyH_ready (rs := [0]) (by kernel_rfl) (by simp) ?_
          refine AllReadyH.cons rfl (fun K hK => ?_) AllReadyH.nil
          go_simp
          refine (unhide HS _ hdr).mono ?_
          rintro e w2 ⟨rfl, b2⟩
          have B2 := hide b2
          clear b2
          go_wp2_with fail
          refine hK.out _ _ ?_ (fun hHeld => ?_)
          · trivial
          clear hK K
          (try simp only [Act.put, List.setIfInBounds_toArray, List.set_cons_zero, List.set_cons_succ])
          refine wpAnyH_ready (rs := [5]) (by kernel_rfl) (by simp) ?_
          refine AllReadyH.cons rfl (fun K hK => ?_) AllReadyH.nil
          go_simp
          refine hK.out _ _ ?_ (fun hHeld => ?_)
          · trivial
          clear hK K
          (try simp only [Act.put, List.setIfInBounds_toArray, List.set_cons_zero, List.set_cons_succ])
          refine wpAnyH_ready (rs := [6]) (by kernel_rfl) (by simp) ?_
          refine AllReadyH.cons rfl (fun K hK => ?_) AllReadyH.nil
          go_simp
          refine hK.out _ _ ?_ (fun hHeld => ?_)
          · trivial
          clear hK K
          (try simp only [Act.put, List.setIfInBounds_toArray, List.set_cons_zero, List.set_cons_succ])
          refine wpAnyH_ready (rs := [7]) (by kernel_rfl) (by simp) ?_
          refine AllReadyH.cons rfl (fun K hK => ?_) AllReadyH.nil
          go_simp
          refine hK.out _ _ ?_ (fun hHeld => ?_)
          · trivial
          clear hK K
          (try simp only [Act.put, List.setIfInBounds_toArray, List.set_cons_zero, List.set_cons_succ])
          refine wpAnyH_done (by kernel_rfl) ?_ _
          go_wp2
          go_ret3
          exact ⟨by rw [unhide HF]; rfl, unhide B2⟩
        · have e1 : ((x : Int) == 34) = false := by simp; omega
          rw [if_neg (by simp [a1])] at hq
          by_cases a2 : x = 92
          · rw [if_pos ⟨a2, rfl⟩] at hq
            have HQ2 := hide hq
            have e2 : ((x : Int) == 92) = true := by simp [a2]
            clear hq a1 a2 HS HB
            go_wp2
            exact ⟨⟨k + 1, true, acc, by go_num, rfl, by omega, by omega, HQ2, HR⟩, by simp [intOf]; omega⟩
          · rw [if_neg (by simp [a2])] at hq
            have HQ2 := hide hq
            have e2 : ((x : Int) == 92) = false := by simp; omega
            clear hq a1 a2 HS
            go_wp2_with fail
            refine (unhide HB).mono ?_
            rintro e w2 ⟨rfl, hw2⟩
            have HW2 := hide hw2
            clear hw2 HB
            go_wp2
            exact ⟨⟨k + 1, false, acc ++ [s[k]], by go_num, rfl, by omega, by simp; omega, HQ2, HW2⟩, by simp [intOf]; omega⟩
    · have hlt1 : ¬ (k : Int) < (s.size : Int) := by omega
      have hq := unhide HQ
      rw [List.drop_of_length_le (by omega)] at hq
      have HF : Hid (res = .tuple #[.string ⟨#[]⟩, .string ⟨#[]⟩, .bool false]) := hide (by rw [← hq]; rfl)
      have HB := hide (unhide HR).bel
      clear hq HQ HR
      go_wp2
      go_ret3
      exact ⟨by rw [unhide HF]; rfl, unhide HB⟩

theorem below_dr9 {w w' : World} (h : Below w.drew.heap.size w.drew w') : Below w.heap.size w w' := ⟨h.os, h.tape, h.output, h.size, h.block⟩
/-- What readValue tells: without a value whatever stands there. -/
def rvV (l : List UInt8) : Value := if l.head? = some 34 then qdV (qdF false [] l.tail) else .tuple #[.string (bts (l.take (tokN l))), .string (bts (l.drop (tokN l))), .bool (decide (0 < tokN l))]
set_option maxHeartbeats 1000000 in
set_option maxRecDepth 100000 in
theorem readValue_any (s : ByteArray) (w : World) (hs : s.size ≤ 1099511627776) :
    Calls Tryz.prog 64 #[.string s] w fun e w' => e = .returned (rvV s.data.toList) ∧ Below w.heap.size w w' := by
  have hsl := sizeL s
  have HCP := hide (cutPrefix_any s 34 w (by omega))
  rw [show bts [34] = ⟨#[34]⟩ from rfl] at HCP
  unfold rvV
  by_cases h : s.data.toList.head? = some 34
  · rw [if_pos h, decide_eq_true h] at HCP
    rw [if_pos h]
    have hte : (s.extract 1 s.size).data.toList = s.data.toList.tail := by rw [toList_from]; simp
    have HQ := hide (fun W => readQuoted_any (s.extract 1 s.size) W (by rw [← sizeL, hte]; simp; omega))
    rw [hte] at HQ
    generalize s.extract 1 s.size = s1 at HCP HQ
    generalize qdF false [] s.data.toList.tail = r at HQ ⊢
    clear h hte
    cases r with
    | none =>
      go_enter Tryz.func64, Tryz.ntmps64
      go_wp2_with fail
      refine (unhide HCP).mono ?_
      rintro e w1 ⟨rfl, rfl⟩
      go_wp2_with fail
      refine (unhide HQ _).mono ?_
      rintro e w2 ⟨rfl, b2⟩
      have B2 := hide b2
      clear b2
      simp only [qdV]
      go_wp2
      go_ret3
      exact ⟨rfl, unhide B2⟩
    | some p =>
      obtain ⟨v, t⟩ := p
      go_enter Tryz.func64, Tryz.ntmps64
      go_wp2_with fail
      refine (unhide HCP).mono ?_
      rintro e w1 ⟨rfl, rfl⟩
      go_wp2_with fail
      refine (unhide HQ _).mono ?_
      rintro e w2 ⟨rfl, b2⟩
      have B2 := hide b2
      clear b2
      simp only [qdV]
      go_wp2
      go_ret3
      exact ⟨rfl, unhide B2⟩
  · rw [if_neg h, decide_eq_false h] at HCP
    rw [if_neg h]
    have HT := hide (fun W => tokenSize_any s W (by omega))
    have hle := tokN_le s.data.toList
    rw [hsl] at hle
    obtain ⟨tn, htn⟩ : ∃ tn, tokN s.data.toList = tn := ⟨_, rfl⟩
    rw [htn] at HT hle ⊢
    have e1 : bts (s.data.toList.take tn) = s.extract 0 tn := by apply ext_list; rw [toList_bts, toList_upto]
    have e2 : bts (s.data.toList.drop tn) = s.extract tn s.size := by apply ext_list; rw [toList_bts, toList_from]
    rw [e1, e2]
    have HU := fun W => slice_upto s (tn : Int) tn rfl hle W
    have HV := fun W => slice_from s (tn : Int) tn rfl hle W
    have HCL := hide (fun W => cloneS_any (s.extract 0 tn) W (by rw [size_part s 0 tn (by omega)]; omega))
    have hd : decide ((tn : Int) > 0) = decide (0 < tn) := by by_cases hz : 0 < tn <;> simp [hz]
    clear e1 e2 h htn
    go_enter Tryz.func64, Tryz.ntmps64
    go_wp2_with fail
    refine (unhide HCP).mono ?_
    rintro e w1 ⟨rfl, rfl⟩
    go_wp2_with fail
    refine (unhide HT _).mono ?_
    rintro e w1 ⟨rfl, rfl⟩
    go_wp2
    refine wp_region_held_drew (S := fun _ => True) (by kernel_rfl) ?_ (fun hHeld => ?_)
    · trivial
    refine wpAnyH_take (i := 0) (v := .string s) rfl (by kernel_rfl) (by kernel_rfl) (by kernel_rfl) (fun _ _ _ h => h) (Or.inl ⟨by rfl, fun wS hSw => ?_⟩) (by assumption) ?_
    · (try dsimp only at hSw); go_simp
    (try simp only [Act.put, List.setIfInBounds_toArray, List.set_cons_zero, List.set_cons_succ])
    refine wpAnyH_take (i := 1) (v := .int .i64 (tn : Int)) rfl (by kernel_rfl) (by kernel_rfl) (by kernel_rfl) (fun _ _ _ h => h) (Or.inl ⟨by rfl, fun wS hSw => ?_⟩) (by assumption) ?_
    · (try dsimp only at hSw); go_simp
    (try simp only [Act.put, List.setIfInBounds_toArray, List.set_cons_zero, List.set_cons_succ])
    refine wpAnyH_take (i := 2) (v := .string (s.extract 0 tn)) rfl (by kernel_rfl) (by kernel_rfl) (by kernel_rfl) (fun _ _ _ h => h) (Or.inl ⟨by rfl, fun wS hSw => ?_⟩) (by assumption) ?_
    · (try dsimp only at hSw); go_simp
    (try simp only [Act.put, List.setIfInBounds_toArray, List.set_cons_zero, List.set_cons_succ])
    refine wpAnyH_take (i := 4) (v := .string s) rfl (by kernel_rfl) (by kernel_rfl) (by kernel_rfl) (fun _ _ _ h => h) (Or.inl ⟨by rfl, fun wS hSw => ?_⟩) (by assumption) ?_
    · (try dsimp only at hSw); go_simp
    (try simp only [Act.put, List.setIfInBounds_toArray, List.set_cons_zero, List.set_cons_succ])
    refine wpAnyH_take (i := 5) (v := .int .i64 (tn : Int)) rfl (by kernel_rfl) (by kernel_rfl) (by kernel_rfl) (fun _ _ _ h => h) (Or.inl ⟨by rfl, fun wS hSw => ?_⟩) (by assumption) ?_
    · (try dsimp only at hSw); go_simp
    (try simp only [Act.put, List.setIfInBounds_toArray, List.set_cons_zero, List.set_cons_succ])
    refine wpAnyH_take (i := 6) (v := .string (s.extract tn s.size)) rfl (by kernel_rfl) (by kernel_rfl) (by kernel_rfl) (fun _ _ _ h => h) (Or.inl ⟨by rfl, fun wS hSw => ?_⟩) (by assumption) ?_
    · (try dsimp only at hSw); go_simp
    (try simp only [Act.put, List.setIfInBounds_toArray, List.set_cons_zero, List.set_cons_succ])
    refine wpAnyH_take (i := 7) (v := .int .i64 (tn : Int)) rfl (by kernel_rfl) (by kernel_rfl) (by kernel_rfl) (fun _ _ _ h => h) (Or.inl ⟨by rfl, fun wS hSw => ?_⟩) (by assumption) ?_
    · (try dsimp only at hSw); go_simp
    (try simp only [Act.put, List.setIfInBounds_toArray, List.set_cons_zero, List.set_cons_succ])
    refine wpAnyH_take (i := 8) (v := .bool (decide (0 < tn))) rfl (by kernel_rfl) (by kernel_rfl) (by kernel_rfl) (fun _ _ _ h => h) (Or.inl ⟨by rfl, fun wS hSw => ?_⟩) (by assumption) ?_
    · (try dsimp only at hSw); go_simp
    (try simp only [Act.put, List.setIfInBounds_toArray, List.set_cons_zero, List.set_cons_succ])
    refine wpAnyH_ready (rs := [3]) (by kernel_rfl) (by simp) ?_
    refine AllReadyH.cons rfl (fun K hK => ?_) AllReadyH.nil
    go_simp
    refine (unhide HCL _).mono ?_
    rintro e w2 ⟨rfl, b2⟩
    have B2 := hide b2
    clear b2
    go_wp2_with fail
    refine hK.out _ _ ?_ (fun hHeld => ?_)
    · trivial
    clear hK K
    (try simp only [Act.put, List.setIfInBounds_toArray, List.set_cons_zero, List.set_cons_succ])
    refine wpAnyH_ready (rs := [9]) (by kernel_rfl) (by simp) ?_
    refine AllReadyH.cons rfl (fun K hK => ?_) AllReadyH.nil
    go_simp
    refine hK.out _ _ ?_ (fun hHeld => ?_)
    · trivial
    clear hK K
    (try simp only [Act.put, List.setIfInBounds_toArray, List.set_cons_zero, List.set_cons_succ])
    refine wpAnyH_ready (rs := [10]) (by kernel_rfl) (by simp) ?_
    refine AllReadyH.cons rfl (fun K hK => ?_) AllReadyH.nil
    go_simp
    refine hK.out _ _ ?_ (fun hHeld => ?_)
    · trivial
    clear hK K
    (try simp only [Act.put, List.setIfInBounds_toArray, List.set_cons_zero, List.set_cons_succ])
    refine wpAnyH_ready (rs := [11]) (by kernel_rfl) (by simp) ?_
    refine AllReadyH.cons rfl (fun K hK => ?_) AllReadyH.nil
    go_simp
    refine hK.out _ _ ?_ (fun hHeld => ?_)
    · trivial
    clear hK K
    (try simp only [Act.put, List.setIfInBounds_toArray, List.set_cons_zero, List.set_cons_succ])
    refine wpAnyH_done (by kernel_rfl) ?_ _
    go_wp2
    go_ret3
    exact ⟨rfl, below_dr9 (unhide B2)⟩
end Go.Proofs.YtedpimhhbajljaaGreatDoor
