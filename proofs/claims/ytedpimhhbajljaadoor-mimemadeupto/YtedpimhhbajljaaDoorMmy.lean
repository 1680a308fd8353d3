/-
  missivelaw11.MimeMade walked, over this seat's program.
-/
import Derived.Test.YtedpimhhbajljaaDoorBnd3
import Derived.Test.YtedpimhhbajljaaDoorMsr
set_option linter.unusedVariables false
set_option linter.unusedSimpArgs false
namespace Go.Proofs.YtedpimhhbajljaaDoor
open Go.RowKit Go.Proofs.Hed Go.Proofs.Rns

/-- The text as far as the first texts stand in it. -/
def mdPre (b : List UInt8) (l : List (List UInt8)) : List UInt8 := textL [10] [(mdC, mdT ++ mdB ++ b)] ++ l.flatMap (fun t => 45 :: 45 :: (b ++ 10 :: 10 :: (t ++ [10])))
theorem mdPre_nil {b : List UInt8} (h : b ≠ []) : mdPre b [] = [67, 111, 110, 116, 101, 110, 116, 45, 84, 121, 112, 101, 58, 32, 109, 117, 108, 116, 105, 112, 97, 114, 116, 47, 120, 59, 32, 98, 111, 117, 110, 100, 97, 114, 121, 61] ++ b ++ [10, 10] := by
  unfold mdPre textL fieldL
  simp [mdC, mdT, mdB]
theorem mdPre_snoc (b : List UInt8) (l : List (List UInt8)) (t : List UInt8) : mdPre b (l ++ [t]) = mdPre b l ++ ([45, 45] ++ b ++ [10, 10] ++ t ++ [10]) := by
  unfold mdPre
  rw [List.flatMap_append]
  simp
theorem mdPre_end (b : List UInt8) (l : List (List UInt8)) : mdText b l = mdPre b l ++ ([45, 45] ++ b ++ [45, 45, 10]) := by
  unfold mdPre mdText mdBody
  simp
theorem mdPre_len {b : List UInt8} (h : b ≠ []) (hb : b.length ≤ 40) : ∀ (l : List (List UInt8)), (mdPre b l).length ≤ 78 + 45 * l.length + (l.map List.length).sum := by
  intro l
  have h0 : (mdPre b l).length = (mdPre b []).length + (l.flatMap (fun t => 45 :: 45 :: (b ++ 10 :: 10 :: (t ++ [10])))).length := by
    unfold mdPre
    simp
  rw [h0, mdPre_nil h]
  have h1 : (l.flatMap (fun t => 45 :: 45 :: (b ++ 10 :: 10 :: (t ++ [10])))).length ≤ 45 * l.length + (l.map List.length).sum := by
    induction l with
    | nil => simp
    | cons t l ih =>
      rw [List.flatMap_cons, List.length_append]
      have := ih (by unfold mdPre; simp)
      simp only [List.length_cons, List.length_append, List.length_nil, List.map_cons, List.sum_cons]
      omega
  simp only [List.length_append, List.length_cons, List.length_nil]
  omega
theorem sum_take_le (l : List Nat) (k : Nat) : (l.take k).sum ≤ l.sum := by
  conv => rhs; rw [← List.take_append_drop k l, List.sum_append]
  omega
theorem sumS_len (l : List ByteArray) : (l.map (fun t => t.data.toList.length)).sum ≤ sumS l := by
  unfold sumS
  induction l with
  | nil => simp
  | cons t l ih =>
    simp only [List.map_cons, List.sum_cons]
    have := sizeL t
    omega
theorem mem_sumS : ∀ (ts : List ByteArray) (t : ByteArray), t ∈ ts → t.size + 1 ≤ sumS ts
  | x :: ts, t, h => by
    unfold sumS
    simp only [List.map_cons, List.sum_cons]
    rcases List.mem_cons.1 h with rfl | h
    · omega
    · have := mem_sumS ts t h
      unfold sumS at this
      omega
theorem pre_size {b : List UInt8} (h : b ≠ []) (hb : b.length ≤ 40) (ts : List ByteArray) (hs : sumS ts ≤ 1048576) (hn : ts.length ≤ 20) (k : Nat) : (mdPre b ((ts.take k).map (·.data.toList))).length ≤ 1060000 := by
  have h1 := mdPre_len h hb ((ts.take k).map (·.data.toList))
  have h2 := sumS_len ts
  have h3 := sum_take_le (ts.map (fun t => t.data.toList.length)) k
  have h4 : ((ts.take k).map (·.data.toList)).map List.length = (ts.map (fun t => t.data.toList.length)).take k := by
    rw [List.map_map, List.map_take]
    rfl
  rw [h4] at h1
  have h5 : ((ts.take k).map (·.data.toList)).length ≤ 20 := by rw [List.length_map, List.length_take]; omega
  omega
theorem no_dd {t : ByteArray} {j : Nat} (h1 : j + 1 < t.size) (h : ¬ (t[j]'(by omega) = 45 ∧ t[j + 1] = 45)) : ¬ [45, 45] <+: t.data.toList.drop j := by
  rw [drop_byte t j (by omega), drop_byte t (j + 1) h1]
  rintro ⟨r, hr⟩
  simp only [List.cons_append, List.nil_append, List.cons.injEq] at hr
  exact h ⟨hr.1.symm, hr.2.1.symm⟩
theorem txOk_of {t : ByteArray} (h : ∀ j, j + 1 < t.size → ¬ [45, 45] <+: t.data.toList.drop j) (hl : t.data.toList.getLast? ≠ some 13) : TxOk t.data.toList := by
  refine ⟨fun i => ?_, hl⟩
  by_cases hi : i + 1 < t.size
  · exact Or.inr (h i hi)
  · right
    intro hp
    have := hp.length_le
    rw [List.length_drop, sizeL] at this
    simp only [List.length_cons, List.length_nil] at this
    omega
theorem last_byte (t : ByteArray) (h : 0 < t.size) : t.data.toList.getLast? = some (t[t.size - 1]'(by omega)) := by
  rw [List.getLast?_eq_getElem?, sizeL]
  have h2 : t.size - 1 < t.data.toList.length := by rw [sizeL]; omega
  rw [List.getElem?_eq_getElem h2]
  rfl

/-- The parts of the text that is made, as they lie. -/
theorem made_parts {bd : ByteArray} (hb : BdOk bd.data.toList) (hbz : bd.size ≤ 40) (ts : List ByteArray) (hne : ts.length ≠ 0) (hn : ts.length ≤ 20) (hs : sumS ts ≤ 1048576) (htx : ∀ t ∈ ts, TxOk t.data.toList) :
    ∃ L : List PT, L.length = ts.length + 1 ∧ (∀ i (h : i < ts.length), (L[i + 1]?.map PT.lv) = some 1 ∧ (L[i + 1]?.map PT.ty) = some ⟨#[116, 101, 120, 116, 47, 112, 108, 97, 105, 110]⟩ ∧ (L[i + 1]?.map PT.bo) = some ts[i]) ∧
      ∀ (X : ByteArray) (W : World), X.data.toList = mdText bd.data.toList (ts.map (·.data.toList)) → Calls Tryd.prog 8 #[.string X] W fun e w' => ∃ g cap, e = .returned (.slice (some ⟨g, 0, none⟩) L.length cap) ∧ PtsAt w' g L ∧ W.heap.size ≤ g ∧ Below W.heap.size W w' := by
  obtain ⟨p, cos, h1, h2⟩ := pts_md hb (ts.map (·.data.toList)) (fun t ht => by obtain ⟨x, hx, rfl⟩ := List.mem_map.1 ht; exact htx x hx) (by rw [List.length_map]; omega) (by intro e; apply hne; rw [List.map_eq_nil_iff] at e; rw [e]; rfl)
  rw [List.length_map] at h1
  refine ⟨p :: ((ts.map (·.data.toList)).zip cos).map (fun p => ⟨1, ⟨#[116, 101, 120, 116, 47, 112, 108, 97, 105, 110]⟩, ⟨#[117, 115, 45, 97, 115, 99, 105, 105]⟩, p.2, bts p.1⟩), ?_, ?_, fun X W hX => ?_⟩
  rotate_left 2
  · have hX2 : X = bts (mdText bd.data.toList (ts.map (·.data.toList))) := by rw [← hX, bts_toList]
    have hz : X.size ≤ 4194304 := by
      have h3 := sizeL bd
      have h4 := pre_size hb.1 (by omega) ts hs hn ts.length
      rw [List.take_length] at h4
      rw [← sizeL, hX, mdPre_end]
      simp only [List.length_append, List.length_cons, List.length_nil]
      omega
    have h := parts_row X W hz
    rw [hX2, h2] at h
    rw [hX2]
    exact h
  · simp [h1]
  · intro i hi
    have hz : ((ts.map (·.data.toList)).zip cos)[i]? = some (ts[i].data.toList, cos[i]'(by omega)) := by
      rw [List.getElem?_zip_eq_some]
      exact ⟨by simp [hi], List.getElem?_eq_getElem _⟩
    rw [List.getElem?_cons_succ, List.getElem?_map, hz]
    simp only [Option.map_some, bts_toList]
    exact ⟨trivial, trivial, trivial⟩
set_option maxHeartbeats 8000000 in
set_option maxRecDepth 100000 in
theorem mimeMade_walk (v : Value) (ts : List ByteArray) (bd : ByteArray) (w : World) (ht : RTabN w) (hv : RowS w v ts) (hs : sumS ts ≤ 1048576) (hbs : bd.size ≤ 1048576) :
    Calls Tryd.prog 5 #[v, .string bd] w fun e w' => e = .returned (.bool true) ∧ Below w.heap.size w w' := by
  have HT := hide (livesM_any w ht)
  obtain ⟨a, cap, rfl, _, hfit, hcc⟩ := hv
  clear ht
  obtain ⟨n, hn⟩ : ∃ n, ts.length = n := ⟨_, rfl⟩
  rw [hn]
  have HN := hide hn
  clear hn
  have hbe : bd.toList.isEmpty = decide (bd.size = 0) := by
    rw [ByteArray.toList_eq]
    have := sizeL bd
    cases hb : bd.data.toList with
    | nil => rw [hb] at this; rw [decide_eq_true (by simpa using this.symm)]; rfl
    | cons c r => rw [hb] at this; rw [decide_eq_false (by simp only [List.length_cons] at this; omega)]; rfl
  by_cases hb0 : bd.size = 0
  · rw [decide_eq_true hb0] at hbe
    clear hb0
    go_enter Tryd.func5, Tryd.ntmps5
    go_wp2_with fail
    refine (unhide HT).mono ?_
    rintro e w1 ⟨rfl, b1⟩
    go_wp2
    go_ret
    exact ⟨rfl, b1⟩
  rw [decide_eq_false hb0] at hbe
  by_cases hb4 : bd.size > 40
  · have d1 : decide ((bd.size : Int) > 40) = true := decide_eq_true (by omega)
    go_enter Tryd.func5, Tryd.ntmps5
    go_wp2_with fail
    refine (unhide HT).mono ?_
    rintro e w1 ⟨rfl, b1⟩
    go_wp2
    go_ret
    exact ⟨rfl, b1⟩
  have d1 : decide ((bd.size : Int) > 40) = false := decide_eq_false (by omega)
  by_cases hn0 : n = 0
  · subst hn0
    go_enter Tryd.func5, Tryd.ntmps5
    go_wp2_with fail
    refine (unhide HT).mono ?_
    rintro e w1 ⟨rfl, b1⟩
    go_wp2
    go_ret
    exact ⟨rfl, b1⟩
  have d2 : ((n : Int) == 0) = false := by simp; omega
  by_cases hn20 : n > 20
  · have d3 : decide ((n : Int) > 20) = true := decide_eq_true (by omega)
    go_enter Tryd.func5, Tryd.ntmps5
    go_wp2_with fail
    refine (unhide HT).mono ?_
    rintro e w1 ⟨rfl, b1⟩
    go_wp2
    go_ret
    exact ⟨rfl, b1⟩
  have d3 : decide ((n : Int) > 20) = false := decide_eq_false (by omega)
  obtain ⟨g, off, ha, hlt, hc⟩ : ∃ g off, a = some ⟨g, off, none⟩ ∧ g < w.heap.size ∧ ∀ j (h : j < ts.length), w.cell? ⟨g, off + j, none⟩ = some (.string ts[j]) := by
    rcases hcc with h | h
    · subst h; exact absurd (unhide HN).symm hn0
    · exact h
  subst ha
  have HC := hide hc
  have HFIT : Hid (∀ t ∈ ts, t.size ≤ 1048576) := hide (fun t htm => by
    have h1 := mem_sumS ts t htm
    omega)
  clear hc hcc hfit
  have hbz : bd.size ≤ 40 := by omega
  have hbl := sizeL bd
  have hbz' : (bd.size : Int) ≤ 40 := by omega
  go_enter Tryd.func5, Tryd.ntmps5
  go_wp2_with fail
  refine (unhide HT).mono ?_
  rintro e w1 ⟨rfl, b1⟩
  have HC1 := hide (fun j (h : j < ts.length) => (b1.cell (p := ⟨g, off + j, none⟩) hlt).trans (unhide HC j h))
  have hlt1 : g < w1.heap.size := Nat.lt_of_lt_of_le hlt b1.size
  have B1 := hide b1
  have HB0 := hide hb0
  have HN20 : Hid (n ≤ 20) := hide (by omega)
  clear HT b1 HC hb0 hb4 hn20
  go_wp2
  go_loop [5] (fun z => ∃ k : Nat, z = .int .i64 k ∧ k ≤ bd.size ∧ Hid (∀ j (hj : j < bd.size), j < k → 97 ≤ bd[j].toNat ∧ bd[j].toNat ≤ 122)) (fun z => bd.size - (intOf z).toNat)
  case atStart => exact ⟨0, rfl, Nat.zero_le _, hide (fun j hj h => by omega)⟩
  case round =>
    obtain ⟨k, rfl, hk, HE⟩ := hrel
    by_cases hkl : k < bd.size
    · have hkl' : (k : Int) < (bd.size : Int) := by omega
      by_cases h1 : bd[k].toNat < 97
      · have e1 : decide ((bd[k].toNat : Int) < 97) = true := decide_eq_true (by omega)
        go_wp2
        go_ret
        exact ⟨rfl, unhide B1⟩
      · have e1 : decide ((bd[k].toNat : Int) < 97) = false := decide_eq_false (by omega)
        by_cases h2 : bd[k].toNat > 122
        · have e2 : decide ((bd[k].toNat : Int) > 122) = true := decide_eq_true (by omega)
          go_wp2
          go_ret
          exact ⟨rfl, unhide B1⟩
        · have e2 : decide ((bd[k].toNat : Int) > 122) = false := decide_eq_false (by omega)
          have HE2 : Hid (∀ j (hj : j < bd.size), j < k + 1 → 97 ≤ bd[j].toNat ∧ bd[j].toNat ≤ 122) := hide (fun j hj h => by
            by_cases e : j = k
            · subst e; omega
            · exact unhide HE j hj (by omega))
          clear HE
          go_wp2
          go_round
          case rel => exact ⟨k + 1, by go_num, by omega, HE2⟩
          case measure => simp [intOf]; omega
    · have hkl' : ¬ (k : Int) < (bd.size : Int) := by omega
      have hkk : k = bd.size := by omega
      have hbne : bd.data.toList ≠ [] := fun e => unhide HB0 (by rw [← hbl, e]; rfl)
      have HBD : Hid (BdOk bd.data.toList) := hide ⟨hbne, fun c hc => by
        obtain ⟨j, hj, rfl⟩ := List.getElem_of_mem hc
        rw [hbl] at hj
        exact unhide HE j hj (by omega)⟩
      have HPS := hide (fun j => pre_size (b := bd.data.toList) hbne (by omega) ts hs (by have := unhide HN; have := unhide HN20; omega) j)
      have HSZ : ∀ (j : Nat) (X : ByteArray), X.data.toList = mdPre bd.data.toList ((ts.take j).map (·.data.toList)) → X.size ≤ 1060000 := fun j X h => by
        rw [← sizeL, h]
        exact unhide HPS j
      subst hkk
      clear HE hbe hkl hkl' hbne
      go_wp2
      go_loop [6, 8, 9, 53] (fun s6 _ _ z => ∃ (k : Nat) (S : ByteArray), z = .int .i64 k ∧ s6 = .string S ∧ k ≤ n ∧ S.size ≤ 1060000 ∧ Hid (S.data.toList = mdPre bd.data.toList ((ts.take k).map (·.data.toList))) ∧ Hid (∀ t ∈ ts.take k, TxOk t.data.toList)) (fun _ _ _ z => n - (intOf z).toNat)
      case atStart =>
        refine ⟨0, _, rfl, rfl, Nat.zero_le _, HSZ 0 _ ?_, hide ?_, hide (fun t h => by simp at h)⟩
        all_goals
          rw [List.take_zero, List.map_nil, mdPre_nil (unhide HBD).1]
          simp only [ByteArray.data_append, Array.toList_append]
      case round =>
        obtain ⟨k, S, rfl, rfl, hk, hSz, HE, HTX⟩ := hrel
        by_cases hkn : k < n
        · have hkn' : (k : Int) < (n : Int) := by omega
          have hktl : k < ts.length := by rw [unhide HN]; exact hkn
          obtain ⟨t, htk⟩ : ∃ t, ts[k] = t := ⟨_, rfl⟩
          have ck := unhide HC1 k hktl
          rw [htk] at ck
          have htz : t.size ≤ 1048576 := unhide HFIT t (by rw [← htk]; exact List.getElem_mem _)
          have htt : ts.take (k + 1) = ts.take k ++ [t] := by rw [List.take_succ_eq_append_getElem hktl, htk]
          have HFIN : Hid ((∀ j, j + 1 < t.size → ¬ [45, 45] <+: t.data.toList.drop j) → t.data.toList.getLast? ≠ some 13 → (∀ x ∈ ts.take (k + 1), TxOk x.data.toList) ∧ ∀ X : ByteArray, X.data.toList = S.data.toList ++ ([45, 45] ++ bd.data.toList ++ [10, 10] ++ t.data.toList ++ [10]) → X.data.toList = mdPre bd.data.toList ((ts.take (k + 1)).map (·.data.toList)) ∧ X.size ≤ 1060000) := hide (fun h1 h2 => by
            refine ⟨fun x hx => ?_, fun X hX => ?_⟩
            · rw [htt] at hx
              rcases List.mem_append.1 hx with hx | hx
              · exact unhide HTX x hx
              · rw [List.mem_singleton] at hx
                subst hx
                exact txOk_of h1 h2
            · have h3 : X.data.toList = mdPre bd.data.toList ((ts.take (k + 1)).map (·.data.toList)) := by
                rw [hX, unhide HE, htt, List.map_append, List.map_cons, List.map_nil, mdPre_snoc]
              exact ⟨h3, HSZ (k + 1) X h3⟩)
          clear htk htt HTX
          go_wp2
          go_loop [9] (fun z => ∃ i : Nat, z = .int .i64 i ∧ i ≤ t.size ∧ Hid (∀ j, j < i → ¬ [45, 45] <+: t.data.toList.drop j)) (fun z => t.size + 1 - (intOf z).toNat)
          case atStart => exact ⟨0, rfl, Nat.zero_le _, hide (fun j hj => by omega)⟩
          case round =>
            obtain ⟨i, rfl, hi, HI⟩ := hrel
            by_cases hil : i + 1 < t.size
            · have hil' : (i : Int) + 1 < (t.size : Int) := by omega
              have hi0 : i < t.size := by omega
              by_cases h1 : t[i] = 45
              · have h1' : (t[i].toNat : Int) = 45 := by rw [h1]; rfl
                by_cases h2 : t[i + 1] = 45
                · have h2' : (t[i + 1].toNat : Int) = 45 := by rw [h2]; rfl
                  clear HE HI HFIN
                  go_wp2
                  go_ret
                  exact ⟨rfl, unhide B1⟩
                · have h2' : ¬ (t[i + 1].toNat : Int) = 45 := fun e => h2 (UInt8.toNat_inj.mp (by have : (45 : UInt8).toNat = 45 := rfl; omega))
                  have HI2 : Hid (∀ j, j < i + 1 → ¬ [45, 45] <+: t.data.toList.drop j) := hide (fun j hj => by
                    by_cases e : j = i
                    · subst e; exact no_dd hil (fun h => h2 h.2)
                    · exact unhide HI j (by omega))
                  clear HI
                  go_wp2
                  go_round
                  case rel => exact ⟨i + 1, by go_num, by omega, HI2⟩
                  case measure => simp [intOf]; omega
              · have h1' : ¬ (t[i].toNat : Int) = 45 := fun e => h1 (UInt8.toNat_inj.mp (by have : (45 : UInt8).toNat = 45 := rfl; omega))
                have HI2 : Hid (∀ j, j < i + 1 → ¬ [45, 45] <+: t.data.toList.drop j) := hide (fun j hj => by
                  by_cases e : j = i
                  · subst e; exact no_dd hil (fun h => h1 h.1)
                  · exact unhide HI j (by omega))
                clear HI
                go_wp2
                go_round
                case rel => exact ⟨i + 1, by go_num, by omega, HI2⟩
                case measure => simp [intOf]; omega
            · have hil' : ¬ (i : Int) + 1 < (t.size : Int) := by omega
              have HDD : Hid (∀ j, j + 1 < t.size → ¬ [45, 45] <+: t.data.toList.drop j) := hide (fun j hj => unhide HI j (by omega))
              clear HI
              have hte : t.toList.isEmpty = decide (t.size = 0) := by
                rw [ByteArray.toList_eq]
                have := sizeL t
                cases hb : t.data.toList with
                | nil => rw [hb] at this; rw [decide_eq_true (by simpa using this.symm)]; rfl
                | cons c r => rw [hb] at this; rw [decide_eq_false (by simp only [List.length_cons] at this; omega)]; rfl
              by_cases ht0 : t.size = 0
              · rw [decide_eq_true ht0] at hte
                have HF2 := hide (unhide HFIN (unhide HDD) (by rw [List.eq_nil_of_length_eq_zero (by rw [sizeL]; exact ht0 : t.data.toList.length = 0)]; simp))
                clear HE HDD HFIN HSZ
                go_wp2
                go_round
                case rel =>
                  refine ⟨k + 1, _, by go_num, rfl, by omega, (((unhide HF2).2 _ ?_).2), hide ((unhide HF2).2 _ ?_).1, hide (unhide HF2).1⟩
                  all_goals simp only [ByteArray.data_append, Array.toList_append, List.append_assoc]
                case measure => simp [intOf]; omega
              · rw [decide_eq_false ht0] at hte
                have hp : 0 < t.size := by omega
                have hp1 : (1 : Int) ≤ (t.size : Int) := by omega
                by_cases h13 : t[t.size - 1] = 13
                · have h13' : (t[t.size - 1].toNat : Int) = 13 := by rw [h13]; rfl
                  clear HE HDD HFIN
                  go_wp2
                  go_ret
                  exact ⟨rfl, unhide B1⟩
                · have h13' : ¬ (t[t.size - 1].toNat : Int) = 13 := fun e => h13 (UInt8.toNat_inj.mp (by have : (13 : UInt8).toNat = 13 := rfl; omega))
                  have HF2 := hide (unhide HFIN (unhide HDD) (by rw [last_byte t hp]; intro e; exact h13 (Option.some.inj e)))
                  clear HE HDD HFIN HSZ
                  go_wp2
                  go_round
                  case rel =>
                    refine ⟨k + 1, _, by go_num, rfl, by omega, (((unhide HF2).2 _ ?_).2), hide ((unhide HF2).2 _ ?_).1, hide (unhide HF2).1⟩
                    all_goals simp only [ByteArray.data_append, Array.toList_append, List.append_assoc]
                  case measure => simp [intOf]; omega
        · have hkn' : ¬ (k : Int) < (n : Int) := by omega
          have hkk : k = n := by omega
          subst hkk
          have HE1 : Hid (S.data.toList = mdPre bd.data.toList (ts.map (·.data.toList))) := hide (by
            have h := unhide HE
            rwa [List.take_of_length_le (by rw [unhide HN]; omega)] at h)
          obtain ⟨L, hLn, hLi, hR⟩ := made_parts (unhide HBD) hbz ts (by rw [unhide HN]; exact hn0) (by rw [unhide HN]; exact unhide HN20) hs (fun t ht => by
            have h := unhide HTX t
            rw [List.take_of_length_le (by rw [unhide HN]; omega)] at h
            exact h ht)
          rw [unhide HN] at hLn
          have HLN := hide hLn
          have HLI := hide hLi
          have HR := hide hR
          rw [unhide HLN] at HR
          clear hLn hLi hR HE HTX HSZ HPS hkn hkn' hk
          have hnz : k ≤ 20 := unhide HN20
          go_wp2_with fail
          refine (unhide HR _ _ ?_).mono ?_
          · rw [mdPre_end, ← unhide HE1]
            simp only [ByteArray.data_append, Array.toList_append, List.append_assoc]
          rintro e w2 ⟨g2, cap2, rfl, hp, _, b2⟩
          have HP2 := hide hp
          have hg2 := hp.lt
          have HB2 := hide (belows' (unhide B1) b2)
          have HC2 := hide (fun j (h : j < ts.length) => (b2.cell (p := ⟨g, off + j, none⟩) hlt1).trans (unhide HC1 j h))
          have hlt2 : g < w2.heap.size := Nat.lt_of_lt_of_le hlt1 b2.size
          clear hp b2 HC1 HR B1 HE1
          have hsub : ((k : Int) + 1) - (k : Int) = 1 := by omega
          go_wp2
          go_loop [11, 12, 109] (fun _ _ z => ∃ i : Nat, z = .int .i64 i ∧ i ≤ k) (fun _ _ z => k - (intOf z).toNat)
          case atStart => exact ⟨0, rfl, Nat.zero_le _⟩
          case round =>
            obtain ⟨i, rfl, hi⟩ := hrel
            by_cases hik : i < k
            · have hik' : (i : Int) < (k : Int) := by omega
              have hitl : i < ts.length := by rw [unhide HN]; exact hik
              obtain ⟨t, hti⟩ : ∃ t, ts[i] = t := ⟨_, rfl⟩
              have ci := unhide HC2 i hitl
              have hL := unhide HLI i hitl
              have hiL : i + 1 < L.length := by rw [unhide HLN]; omega
              simp only [List.getElem?_eq_getElem hiL, Option.map_some, Option.some.injEq] at hL
              have hpp := (unhide HP2).at (i + 1) hiL
              rw [hL.1, hL.2.1, hL.2.2, hti] at hpp
              rw [hti] at ci
              obtain ⟨y0, y1, _, _, y4⟩ := hpp
              have hq : (t.toList == t.toList) = true := by simp
              clear hti hL
              go_wp2
              go_round
              case rel => exact ⟨i + 1, by go_num, by omega⟩
              case measure => simp [intOf]; omega
            · have hik' : ¬ (i : Int) < (k : Int) := by omega
              go_wp2
              go_ret
              exact ⟨rfl, unhide HB2⟩
end Go.Proofs.YtedpimhhbajljaaDoor
