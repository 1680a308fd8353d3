/-
  What head.Write does, over this seat's program.
-/
import Derived.Test.YtdallfakfhajdaaGreatDoorHww
set_option linter.unusedVariables false
namespace Go.Proofs.YtdallfakfhajdaaGreatDoor
open Go.RowKit Go.Proofs.Hed

/-- How many bytes some fields' lines have at most. -/
def sumF : List Fld → Nat
  | [] => 0
  | f :: r => f.1.size + f.2.size + 3 + sumF r
theorem sumF_append (a b : List Fld) : sumF (a ++ b) = sumF a + sumF b := by
  induction a with
  | nil => simp [sumF]
  | cons f r ih => simp only [List.cons_append, sumF, ih]; omega
theorem sumF_le (l : List Fld) (h : ∀ f ∈ l, Fits f) : sumF l ≤ l.length * 33554435 := by
  induction l with
  | nil => simp [sumF]
  | cons f r ih =>
    have h1 := h f (by simp)
    have h2 := ih (fun g hg => h g (by simp [hg]))
    have := h1.1
    have := h1.2
    simp only [sumF, List.length_cons]
    omega
theorem field_len (f : Fld) : (fieldL [10] (lst f)).length ≤ f.1.size + f.2.size + 3 := by
  have h1 := sizeL f.1
  have h2 := sizeL f.2
  unfold fieldL lst
  simp only [List.length_append, List.length_cons, List.length_nil]
  split
  · simp; omega
  · simp; omega
theorem flat_len (l : List Fld) : ((l.map lst).map (fieldL [10])).flatten.length ≤ sumF l := by
  induction l with
  | nil => simp [sumF]
  | cons f r ih =>
    have := field_len f
    simp only [List.map_cons, List.flatten_cons, List.length_append, sumF]
    omega
theorem take_next (l : List Fld) (k : Nat) (h : k < l.length) : l.take (k + 1) = l.take k ++ [l[k]] := List.take_succ_eq_append_getElem h

set_option maxHeartbeats 4000000 in
set_option maxRecDepth 100000 in
/-- head.Write writes the header's text, or tells what is wrong. -/
theorem hwrite_any (v : Value) (l : List Fld) (w : World) (h : RowF w v l) :
    Calls Tryz.prog 22 #[v] w fun e w' => e = .returned (.tuple #[.string (bts (writeR (l.map lst)).1), .int .i64 (writeR (l.map lst)).2]) ∧ Below w.heap.size w w' := by
  obtain ⟨a, cap, rfl, hl, hfit, hc⟩ := h
  have HC := hide hc
  have HF := hide hfit
  clear hc hfit
  go_enter Tryz.func22, Tryz.ntmps22
  go_wp2
  go_loopw [4, 12] (fun s z wr => ∃ k : Nat, z = .int .i64 k ∧ k ≤ l.length ∧ s = .int .i64 ((1 + sumF (l.take k) : Nat) : Int) ∧ Hid ((l.take k).all (fun f => okF (lst f)) = true) ∧ Hid (Below w.heap.size w wr)) (fun _ z _ => l.length - (intOf z).toNat)
  case atStart => exact ⟨0, rfl, Nat.zero_le _, by simp [sumF], hide (by simp), hide (Below.refl _ _)⟩
  case round =>
    obtain ⟨k, rfl, hk, rfl, HA, HB⟩ := hrel
    have hsb := sumF_le (l.take k) (fun f hf => unhide HF f (List.mem_of_mem_take hf))
    have htl : (l.take k).length = k := by rw [List.length_take]; omega
    rw [htl] at hsb
    have HSB := hide (And.intro hsb hl)
    by_cases hlt : k < l.length
    · have hlt1 : (k : Int) < (l.length : Int) := by omega
      have hx : ∃ b off, a = some ⟨b, off, none⟩ ∧ b < w.heap.size ∧ wr.cell? ⟨b, off + k * 2, none⟩ = some (.string l[k].1) ∧ wr.cell? ⟨b, off + k * 2 + 1, none⟩ = some (.string l[k].2) := by
        rcases unhide HC with h | ⟨b, off, ha, hb, hcj⟩
        · subst h; simp at hlt
        · obtain ⟨c0, c1⟩ := row_cells hcj hlt
          exact ⟨b, off, ha, hb, ((unhide HB).cell (p := ⟨b, off + k * 2, none⟩) hb).trans c0, ((unhide HB).cell (p := ⟨b, off + k * 2 + 1, none⟩) hb).trans c1⟩
      obtain ⟨b, off, rfl, hb, c0, c1⟩ := hx
      have hzr := (unhide HB).size
      have hf := unhide HF l[k] (List.getElem_mem hlt)
      have HNM := hide (fun W => isName_any l[k].1 W (by have := hf.1; omega))
      have HVL := hide (fun W => isValue_any l[k].2 W hf.2)
      have HBA := hide ((unhide HB).alloc hzr (.cells #[.string l[k].1, .string l[k].2] 39))
      have hall : (l.take (k + 1)).all (fun f => okF (lst f)) = okF (lst l[k]) := by
        rw [take_next l k hlt, List.all_append, unhide HA]
        simp
      have hok : okF (lst l[k]) = (isNm l[k].1.data.toList && isVl l[k].2.data.toList) := rfl
      have hsum : 1 + sumF (l.take (k + 1)) = 1 + sumF (l.take k) + (l[k].1.size + l[k].2.size + 3) := by
        rw [take_next l k hlt, sumF_append]
        simp only [sumF]
        omega
      have hbad : okF (lst l[k]) = false → writeR (l.map lst) = ([], 2) := by
        intro hb
        unfold writeR
        rw [if_neg]
        intro hh
        rw [List.all_eq_true] at hh
        have := hh (lst l[k]) (List.mem_map_of_mem (List.getElem_mem hlt))
        rw [hb] at this
        cases this
      have HBAD := hide hbad
      have HALL := hide hall
      have HSUM := hide hsum
      have HOK := hide hok
      have hf1 := hf.1
      have hf2 := hf.2
      generalize hX : l[k].1 = x at c0 HNM HBA HOK HSUM hf1
      generalize hY : l[k].2 = y at c1 HVL HBA HOK HSUM hf2
      clear hbad hall hsum hok hf hsb htl hX hY HA HB hzr
      have hsz : (sumF (l.take k) : Int) ≤ 150000000000000 := by have := (unhide HSB).1; have := (unhide HSB).2; omega
      generalize sumF (l.take k) = S at HSUM hsz HSB
      have hszp : ((1 + S : Nat) : Int) ≤ 150000000000001 := by omega
      generalize hQ : ((1 + S : Nat) : Int) = Q at hszp
      have HQ := hide hQ
      have hq0 : 0 ≤ Q := by omega
      clear hQ hsz
      cases hn : isNm x.data.toList
      · rw [hn] at HNM HOK
        have HW2 : Hid (writeR (l.map lst) = ([], 2)) := hide (unhide HBAD (unhide HOK))
        clear hn HVL HALL HSUM HBAD HOK
        go_wp2_with fail
        refine (unhide HNM _).mono ?_
        rintro e _ ⟨rfl, rfl⟩
        go_wp2
        go_ret2
        exact ⟨by rw [unhide HW2]; rfl, unhide HBA⟩
      · rw [hn] at HNM HOK
        cases hv : isVl y.data.toList
        · rw [hv] at HVL HOK
          have HW2 : Hid (writeR (l.map lst) = ([], 2)) := hide (unhide HBAD (unhide HOK))
          clear hn hv HALL HSUM HBAD HOK
          go_wp2_with fail
          refine (unhide HNM _).mono ?_
          rintro e _ ⟨rfl, rfl⟩
          go_wp2_with fail
          refine (unhide HVL _).mono ?_
          rintro e w3 ⟨rfl, hb3⟩
          have HB3 := hide ((unhide HBA).trans (hb3.mono (unhide HBA).size))
          clear hb3
          go_wp2
          go_ret2
          exact ⟨by rw [unhide HW2]; rfl, unhide HB3⟩
        · rw [hv] at HVL HOK
          have HA1 : Hid ((l.take (k + 1)).all (fun f => okF (lst f)) = true) := hide (by rw [unhide HALL, unhide HOK]; rfl)
          have HBX := hide (Blk.new wr 39 #[.string x, .string y])
          clear hn hv HALL HBAD HOK
          go_wp2_with fail
          refine (unhide HNM _).mono ?_
          rintro e _ ⟨rfl, rfl⟩
          go_wp2_with fail
          refine (unhide HVL _).mono ?_
          rintro e w3 ⟨rfl, hb3⟩
          have HB3 := hide ((unhide HBA).trans (hb3.mono (unhide HBA).size))
          have hbx := (unhide HBX).below hb3
          have k0 : w3.cell? ⟨wr.heap.size, 0, none⟩ = some (.string x) := (Blk.cell hbx 0).trans rfl
          have k1 : w3.cell? ⟨wr.heap.size, 1, none⟩ = some (.string y) := (Blk.cell hbx 1).trans rfl
          have hf1' : (x.size : Int) ≤ 16777216 := by omega
          have hf2' : (y.size : Int) ≤ 16777216 := by omega
          clear hb3 hbx HBX
          go_wp2
          exact ⟨⟨k + 1, by go_num, by omega, by rw [unhide HSUM]; have := unhide HQ; congr 1; omega, HA1, HB3⟩, by simp [intOf]; omega⟩
    · have hlt1 : ¬ (k : Int) < (l.length : Int) := by omega
      obtain rfl : k = l.length := by omega
      rw [List.take_length] at HA HSB
      rw [List.take_length]
      have hokall : (l.map lst).all okF = true := by rw [List.all_map]; exact unhide HA
      have hsz : (sumF l : Int) ≤ 150000000000000 := by have := (unhide HSB).1; have := (unhide HSB).2; omega
      by_cases hm : l.length ≤ 1024
      · have hwr : writeR (l.map lst) = (textL [10] (l.map lst), 0) := by
          unfold writeR
          rw [if_pos hokall, if_pos (by rw [List.length_map]; exact hm)]
        have hm' : ¬ (1024 : Int) < (l.length : Int) := by omega
        have HWR := hide hwr
        obtain ⟨u0, hu0⟩ : ∃ u0, u0 = wr := ⟨_, rfl⟩
        subst hu0
        have HGR := hide (grow_new (1 + sumF l) u0 (by omega))
        have hsl : sumF l ≤ 34359741440 := by have := (unhide HSB).1; omega
        have HSL := hide hsl
        clear hwr hokall hsz HSB htl hsb
        go_wp2_with fail
        refine (unhide HGR).mono ?_
        rintro e w2 ⟨rfl, g1, g2, _⟩
        have HWB : Hid (Wr u0 w2 []) := hide ⟨g1, g2⟩
        clear g1 g2 HGR
        go_wp2
        go_loopw [44] (fun z wx => ∃ j : Nat, z = .int .i64 j ∧ j ≤ l.length ∧ Hid (Wr u0 wx (((l.take j).map lst).map (fieldL [10])).flatten)) (fun z _ => l.length - (intOf z).toNat)
        case atStart => exact ⟨0, rfl, Nat.zero_le _, HWB⟩
        case round =>
          obtain ⟨j, rfl, hj, HW⟩ := hrel
          by_cases hlt : j < l.length
          · have hlt2 : (j : Int) < (l.length : Int) := by omega
            have hx : ∃ b off, a = some ⟨b, off, none⟩ ∧ b < w.heap.size ∧ wr.cell? ⟨b, off + j * 2, none⟩ = some (.string l[j].1) ∧ wr.cell? ⟨b, off + j * 2 + 1, none⟩ = some (.string l[j].2) := by
              rcases unhide HC with h | ⟨b, off, ha, hb, hcj⟩
              · subst h; simp at hlt
              · obtain ⟨c0, c1⟩ := row_cells hcj hlt
                have hbb : Below w.heap.size w wr := (unhide HB).trans ((unhide HW).bel.mono (unhide HB).size)
                exact ⟨b, off, ha, hb, (hbb.cell (p := ⟨b, off + j * 2, none⟩) hb).trans c0, (hbb.cell (p := ⟨b, off + j * 2 + 1, none⟩) hb).trans c1⟩
            obtain ⟨b, off, rfl, hb, c0, c1⟩ := hx
            have hf := unhide HF l[j] (List.getElem_mem hlt)
            have hA : Below wr.heap.size wr (wr.alloc (.cells #[.string l[j].1, .string l[j].2] 39)) := (Below.refl _ _).alloc (Nat.le_refl _) _
            have hlen : ((((l.take j).map lst).map (fieldL [10])).flatten).length ≤ 549755813888 := by
              have h1 := flat_len (l.take j)
              have h2 := sumF_append (l.take j) (l.drop j)
              rw [List.take_append_drop] at h2
              have := unhide HSL
              omega
            have HFD := hide (wField ((unhide HW).below hA) l[j].1 l[j].2 hf.1 hf.2 hlen)
            have hnx : (((l.take (j + 1)).map lst).map (fieldL [10])).flatten = (((l.take j).map lst).map (fieldL [10])).flatten ++ fieldL [10] (l[j].1.data.toList, l[j].2.data.toList) := by
              rw [take_next l j hlt, List.map_append, List.map_append, List.flatten_append]
              simp only [List.map_cons, List.map_nil, List.flatten_cons, List.flatten_nil, List.append_nil]
              rfl
            rw [← hnx] at HFD
            have HBX := hide (Blk.new wr 39 #[.string l[j].1, .string l[j].2])
            generalize l[j].1 = x at c0 HFD HBX
            generalize l[j].2 = y at c1 HFD HBX
            clear hA hlen hf hnx HW
            have d0 : (wr.alloc (.cells #[.string x, .string y] 39)).cell? ⟨wr.heap.size, 0, none⟩ = some (.string x) := (Blk.cell (unhide HBX) 0).trans rfl
            have d1 : (wr.alloc (.cells #[.string x, .string y] 39)).cell? ⟨wr.heap.size, 1, none⟩ = some (.string y) := (Blk.cell (unhide HBX) 1).trans rfl
            go_wp2_with fail
            refine (unhide HFD).mono ?_
            rintro e w3 ⟨rfl, h3⟩
            have HW3 := hide h3
            clear h3 HFD HBX
            go_wp2
            exact ⟨⟨j + 1, by go_num, by omega, HW3⟩, by simp [intOf]; omega⟩
          · have hlt2 : ¬ (j : Int) < (l.length : Int) := by omega
            obtain rfl : j = l.length := by omega
            rw [List.take_length] at HW
            have hlen : ((((l.map lst).map (fieldL [10])).flatten).length ≤ 549755813888) := by
              have h1 := flat_len l
              have := unhide HSL
              omega
            have HBY := hide (wByte (unhide HW) 10 10 rfl (by omega))
            rw [show ((l.map lst).map (fieldL [10])).flatten ++ [10] = textL [10] (l.map lst) from rfl] at HBY
            clear HW hlen
            go_wp2_with fail
            refine (unhide HBY).mono ?_
            rintro e w3 ⟨rfl, h3⟩
            have HS := hide (Tryz.Builder_String_any_f _ _ _ w3 h3.isb h3.bel.size)
            have HB3 := hide ((unhide HB).trans (h3.bel.mono (unhide HB).size))
            have HZ := hide h3.bel.size
            clear h3 HBY
            go_wp2_with fail
            refine (unhide HS).mono ?_
            rintro e w4 ⟨rfl, _, hb4⟩
            have HB4 := hide ((unhide HB3).trans (hb4.mono (unhide HB).size))
            clear hb4 HS
            go_wp2
            go_ret2
            exact ⟨by rw [unhide HWR]; rfl, unhide HB4⟩
      · have hwr : writeR (l.map lst) = ([], 15) := by
          unfold writeR
          rw [if_pos hokall, if_neg (by rw [List.length_map]; exact hm)]
        have hm' : (1024 : Int) < (l.length : Int) := by omega
        have HWR := hide hwr
        clear hwr hokall HSB
        go_wp2
        go_ret2
        exact ⟨by rw [unhide HWR]; rfl, unhide HB⟩

end Go.Proofs.YtdallfakfhajdaaGreatDoor
