/-
  What the document's Mail of layer 10 does, over this seat's program.
-/
import Derived.Test.YtoegfnonfmcnbaaDoorRwo
import Derived.Test.YtoegfnonfmcnbaaDoorRmo
import Derived.Deep.RegionHeld3
set_option linter.unusedVariables false
namespace Go.Proofs.YtoegfnonfmcnbaaDoor
open Go.RowKit Go.Proofs.Dcl

theorem cut_none {l : List UInt8} (h : cutAt 44 l = none) : 44 ∉ l := by
  induction l with
  | nil => simp
  | cons c r ih =>
    simp only [cutAt] at h
    split at h
    · cases h
    · rename_i hc
      cases hr : cutAt 44 r with
      | none => simp only [List.mem_cons, not_or]; exact ⟨fun e => hc e.symm, ih hr⟩
      | some p => rw [hr] at h; simp at h
theorem cut_first {l : List UInt8} {k : Nat} (h : k < l.length) (hk : l[k] = 44) (hn : 44 ∉ l.take k) : commaR l = l.drop (k + 1) := by
  have : cutAt 44 l = some (l.take k, l.drop (k + 1)) := by
    induction l generalizing k with
    | nil => simp at h
    | cons c r ih =>
      cases k with
      | zero => simp at hk; simp [cutAt, hk]
      | succ k =>
        simp only [List.take_succ_cons, List.mem_cons, not_or] at hn
        simp only [List.getElem_cons_succ] at hk
        have := ih (by simpa using h) hk hn.2
        simp only [cutAt]
        rw [if_neg (fun e => hn.1 e.symm), this]
        simp
  unfold commaR
  rw [this]
theorem comma_none {l : List UInt8} (h : 44 ∉ l) : commaR l = l := by
  unfold commaR
  cases hc : cutAt 44 l with
  | none => rfl
  | some p =>
    have := index_cut 44 l
    rw [hc] at this
    obtain ⟨_, h2⟩ := this
    exfalso
    apply h
    rw [h2]
    simp

theorem fold_len (l : List UInt8) : ∀ p : List (List UInt8) × List UInt8, (∀ q ∈ (l.foldl wrdS p).1, q ∈ p.1 ∨ q.length ≤ p.2.length + l.length) ∧ (l.foldl wrdS p).2.length ≤ p.2.length + l.length := by
  induction l with
  | nil => intro p; exact ⟨fun q h => Or.inl h, by simp⟩
  | cons c r ih =>
    intro p
    simp only [List.foldl_cons, List.length_cons]
    obtain ⟨h1, h2⟩ := ih (wrdS p c)
    have e2 : (wrdS p c).2.length ≤ p.2.length + 1 := by unfold wrdS; split <;> simp
    refine ⟨fun q hq => ?_, by omega⟩
    rcases h1 q hq with h | h
    · unfold wrdS at h
      split at h
      · simp only at h
        split at h
        · exact Or.inl h
        · rcases List.mem_append.1 h with h | h
          · exact Or.inl h
          · right; simp at h; subst h; omega
      · exact Or.inl h
    · right; omega
theorem words_len (t : List UInt8) (q : List UInt8) (h : q ∈ wordsL t) : q.length ≤ t.length := by
  obtain ⟨h1, h2⟩ := fold_len t ([], [])
  unfold wordsL wrdE at h
  split at h
  · rcases h1 q h with h | h
    · simp at h
    · simpa using h
  · rcases List.mem_append.1 h with h | h
    · rcases h1 q h with h | h
      · simp at h
      · simpa using h
    · simp at h; subst h; simpa using h2

set_option maxHeartbeats 4000000 in
set_option maxRecDepth 100000 in
/-- The document's Mail. -/
theorem refMail_any (s : ByteArray) (w : World) (hs : s.size ≤ 4294967280) :
    Calls Tryd.prog 10 #[.string s] w fun e w' => e = .returned (numV (docM s.data.toList) 7) ∧ Below w.heap.size w w' := by
  have hword : ∀ (t : List UInt8) (q : List UInt8), q ∈ wordsL t → q.length ≤ t.length := words_len
  have HWL := hide hword
  clear hword
  go_enter Tryd.func10, Tryd.ntmps10
  go_wp2
  go_loop [0, 4] (fun x z => ∃ k : Nat, x = .string s ∧ z = .int .i64 k ∧ k ≤ s.size ∧ Hid (44 ∉ s.data.toList.take k)) (fun _ z => s.size - (intOf z).toNat)
  case atStart => exact ⟨0, rfl, rfl, Nat.zero_le _, hide (by simp)⟩
  case round =>
    obtain ⟨k, rfl, rfl, hk, HN⟩ := hrel
    by_cases hlt : k < s.size
    · have hlt' : (k : Int) < (s.size : Int) := by omega
      by_cases h44 : s[k] = 44
      · have q1 : ((s[k].toNat : Int) == 44) = true := by rw [h44]; rfl
        have hsl := fun W => slice_from s ((k : Int) + 1) (k + 1) (by omega) (by omega) W
        have hcm : commaR s.data.toList = s.data.toList.drop (k + 1) := cut_first (k := k) (by rw [sizeL]; exact hlt) (by rw [Array.getElem_toList]; exact h44) (unhide HN)
        obtain ⟨t, ht⟩ : ∃ t, t = s.extract (k + 1) s.size := ⟨_, rfl⟩
        have htl : t.data.toList = commaR s.data.toList := by rw [hcm, ht, toList_from]
        have hts : t.data.toList.length ≤ s.size := by rw [htl, hcm, List.length_drop, sizeL]; omega
        have HWD := hide (fun W => refWords_any t W (by rw [← sizeL]; omega))
        have HDOC : Hid (docM s.data.toList = match wordsL t.data.toList with | q0 :: q1 :: q2 :: _ => docD q0 q1 q2 | _ => none) := hide (by unfold docM; rw [htl]; rfl)
        have HQ1 : Hid (∀ q0 q1 q2 rest, wordsL t.data.toList = q0 :: q1 :: q2 :: rest → (bts q1).size ≤ 1099511627776) := hide (fun q0 q1 q2 rest h => by have := unhide HWL t.data.toList q1 (by rw [h]; simp); rw [size_bts]; omega)
        have HQ2 : Hid (∀ q0 q1 q2 rest, wordsL t.data.toList = q0 :: q1 :: q2 :: rest → q2.length ≤ 4294967280) := hide (fun q0 q1 q2 rest h => by have := unhide HWL t.data.toList q2 (by rw [h]; simp); omega)
        rw [← ht] at hsl
        clear ht htl hcm hts HN HWL h44 hk
        go_wp2_with fail
        refine (unhide HWD _).mono ?_
        clear hs
        rintro e w2 ⟨v, rfl, hrow, hb2⟩
        have HB2 := hide hb2
        clear hb2 HWD
        obtain ⟨av, cap, rfl, hrw⟩ := hrow
        obtain ⟨L, hL⟩ : ∃ L, L = wordsL t.data.toList := ⟨_, rfl⟩
        rw [← hL] at hrw HDOC HQ1 HQ2 ⊢
        clear hL
        have HRW := hide hrw
        clear hrw
        by_cases h3 : L.length < 3
        · have h3' : (L.length : Int) < 3 := by omega
          have HR : Hid (docM s.data.toList = none) := hide (by
            rw [unhide HDOC]
            rcases L with _ | ⟨a, _ | ⟨b, _ | ⟨c, r⟩⟩⟩
            · rfl
            · rfl
            · rfl
            · exact absurd h3 (by simp only [List.length_cons]; omega))
          clear HRW HDOC
          go_wp2
          go_ret2
          exact ⟨by rw [unhide HR]; rfl, unhide HB2⟩
        · obtain ⟨q0, q1, q2, rest, rfl⟩ : ∃ a b c r, L = a :: b :: c :: r := by
            rcases L with _ | ⟨a, _ | ⟨b, _ | ⟨c, r⟩⟩⟩
            · exact absurd (by simp) h3
            · exact absurd (by simp) h3
            · exact absurd (by simp) h3
            · exact ⟨a, b, c, r, rfl⟩
          have h3' : ¬ ((q0 :: q1 :: q2 :: rest).length : Int) < 3 := by omega
          have hdm : docM s.data.toList = docD q0 q1 q2 := unhide HDOC
          obtain ⟨g, rfl, hg, hc⟩ : ∃ g, av = some ⟨g, 0, none⟩ ∧ g < w2.heap.size ∧ ∀ W, Below w2.heap.size w2 W → W.cell? ⟨g, 0, none⟩ = some (.string (bts q0)) ∧ W.cell? ⟨g, 1, none⟩ = some (.string (bts q1)) ∧ W.cell? ⟨g, 2, none⟩ = some (.string (bts q2)) := by
            rcases unhide HRW with h | ⟨g, h1, h2, h4⟩
            · cases h
            · refine ⟨g, h1, h2, fun W hW => ⟨?_, ?_, ?_⟩⟩
              · rw [hW.cell (p := ⟨g, 0, none⟩) h2]; exact h4 0 (by simp)
              · rw [hW.cell (p := ⟨g, 1, none⟩) h2]; exact h4 1 (by simp)
              · rw [hW.cell (p := ⟨g, 2, none⟩) h2]; exact h4 2 (by simp)
          have HC := hide hc
          obtain ⟨n3, hn3⟩ : ∃ n, n = (q0 :: q1 :: q2 :: rest).length := ⟨_, rfl⟩
          have hn3' : 3 ≤ n3 := by rw [hn3]; simp
          have i0 : (0 : Int) < (n3 : Int) := by omega
          have i00 : 0 < n3 := by omega
          have i1 : (1 : Int) < (n3 : Int) := by omega
          have i2 : (2 : Int) < (n3 : Int) := by omega
          rw [← hn3] at h3' ⊢
          clear hn3 hc hg HRW HDOC
          obtain ⟨d, hd⟩ : ∃ d, d = digV (numR q0 1 2) := ⟨_, rfl⟩
          obtain ⟨m, hm⟩ : ∃ m : Int, m = (monR q1 : Int) := ⟨_, rfl⟩
          obtain ⟨y, hy⟩ : ∃ y, y = digV (numR q2 2 4) := ⟨_, rfl⟩
          unfold docD at hdm
          rw [← hd, ← hm, ← hy] at hdm
          have HD1 : Hid (∀ W, Calls Tryd.prog 18 #[.string (bts q0), .int .i64 1, .int .i64 2] W fun e w' => e = .returned (.int .i64 d) ∧ w' = W) := hide (fun W => by
            have := refDigits_any (bts q0) 1 2 W (by omega) (by omega)
            rw [toList_bts] at this
            rw [hd]
            exact this)
          have HD2 : Hid (∀ W, Calls Tryd.prog 18 #[.string (bts q2), .int .i64 2, .int .i64 4] W fun e w' => e = .returned (.int .i64 y) ∧ w' = W) := hide (fun W => by
            have := refDigits_any (bts q2) 2 4 W (by omega) (by omega)
            rw [toList_bts] at this
            rw [hy]
            exact this)
          have HMO : Hid (∀ W, Calls Tryd.prog 19 #[.string (bts q1)] W fun e w' => e = .returned (.int .i64 m) ∧ Below W.heap.size W w') := hide (fun W => by
            have := refMonth_any (bts q1) W (unhide HQ1 q0 q1 q2 rest rfl)
            rw [toList_bts] at this
            rw [hm]
            exact this)
          have hyb : -1 ≤ y ∧ y < 10000 := by
            rw [hy]
            cases hq : numR q2 2 4 with
            | none => simp [digV]
            | some n =>
              have := (numR_le hq).2
              simp only [digV]
              omega
          have hz2 := size_bts q2
          obtain ⟨n2, hn2⟩ : ∃ n, n = q2.length := ⟨_, rfl⟩
          rw [← hn2] at hz2 hdm
          have hn2b : n2 ≤ 4294967280 := by rw [hn2]; exact unhide HQ2 q0 q1 q2 rest rfl
          have HDM := hide hdm
          clear hd hm hy hdm hn2
          generalize bts q0 = x0 at HC HD1
          generalize bts q1 = x1 at HC HMO
          generalize bts q2 = x2 at HC HD2 hz2
          have cc := unhide HC w2 (Below.refl _ _)
          obtain ⟨cc0, cc1, cc2⟩ := cc
          clear HQ1 HQ2 h3
          go_wp2
          go_region_held3 (fun w' => w'.cell? ⟨g, 0, none⟩ = some (.string x0) ∧ w'.cell? ⟨g, 1, none⟩ = some (.string x1) ∧ w'.cell? ⟨g, 2, none⟩ = some (.string x2)) (first | exact unhide HC _ b5 | go_keep) (first
            | (go_at_call_of 18 (Value.string x0); refine (unhide HD1 _).mono ?_; rintro e w3 ⟨rfl, h4⟩; subst h4)
            | (go_at_call_of 18 (Value.string x2); refine (unhide HD2 _).mono ?_; rintro e w4 ⟨rfl, h4⟩; subst h4)
            | (go_at_call 19; refine (unhide HMO _).mono ?_; rintro e w5 ⟨rfl, b5⟩; have b5 := below_drew0 b5))
          have HB3 := hide (belows' (unhide HB2) b5)
          have e2 := (unhide HC _ b5).2.2
          clear HC HD1 HD2 HMO cc0 cc1 cc2 b5 HB2
          go_simp
          have HDAY := hide (fun (W : World) (Y : Int) => refDay_any Y m d W)
          obtain ⟨Y, hY⟩ : ∃ Y, Y = docY y n2 := ⟨_, rfl⟩
          rw [← hY] at HDM
          unfold docY at hY
          have k3 : (3 : Int) < 4 := by omega
          by_cases b1 : n2 = 2
          · have b1' : ((n2 : Int) == 2) = true := by rw [b1]; rfl
            by_cases b2 : 0 ≤ y
            · by_cases b3 : y < 50
              · have HY : Hid (y + 2000 = Y) := hide (by rw [hY, if_pos ⟨b1, b2, b3⟩])
                clear hY b1
                have HDY := hide (fun W => unhide HDAY W (y + 2000))
                clear HDAY
                cases hv : vldB Y m d
                · have HR : Hid (docM s.data.toList = none) := hide (by rw [unhide HDM, hv]; rfl)
                  rw [unhide HY, dayV_f hv] at HDY
                  rw [← unhide HY] at HDY
                  clear HDM hv HY
                  go_wp2_with fail
                  refine (unhide HDY _).mono ?_
                  rintro e w6 ⟨rfl, h6⟩
                  subst h6
                  go_wp2
                  go_ret2
                  exact ⟨by rw [unhide HR]; rfl, unhide HB3⟩
                · have HR : Hid (docM s.data.toList = some (num Y m d)) := hide (by rw [unhide HDM, hv]; rfl)
                  rw [unhide HY, dayV_t hv] at HDY
                  rw [← unhide HY] at HDY
                  have HRY := hide (congrArg (fun z => num z m d) (unhide HY))
                  clear HDM hv
                  go_wp2_with fail
                  refine (unhide HDY _).mono ?_
                  rintro e w6 ⟨rfl, h6⟩
                  subst h6
                  go_wp2
                  go_ret2
                  exact ⟨by rw [unhide HR, ← unhide HY]; rfl, unhide HB3⟩
              · have HY : Hid (y + 1900 = Y) := hide (by rw [hY, if_neg (fun h => b3 h.2.2), if_pos ⟨by omega, b2⟩])
                have b4 : (n2 : Int) < 4 := by omega
                clear hY b1
                have HDY := hide (fun W => unhide HDAY W (y + 1900))
                clear HDAY
                cases hv : vldB Y m d
                · have HR : Hid (docM s.data.toList = none) := hide (by rw [unhide HDM, hv]; rfl)
                  rw [unhide HY, dayV_f hv] at HDY
                  rw [← unhide HY] at HDY
                  clear HDM hv HY
                  go_wp2_with fail
                  refine (unhide HDY _).mono ?_
                  rintro e w6 ⟨rfl, h6⟩
                  subst h6
                  go_wp2
                  go_ret2
                  exact ⟨by rw [unhide HR]; rfl, unhide HB3⟩
                · have HR : Hid (docM s.data.toList = some (num Y m d)) := hide (by rw [unhide HDM, hv]; rfl)
                  rw [unhide HY, dayV_t hv] at HDY
                  rw [← unhide HY] at HDY
                  have HRY := hide (congrArg (fun z => num z m d) (unhide HY))
                  clear HDM hv
                  go_wp2_with fail
                  refine (unhide HDY _).mono ?_
                  rintro e w6 ⟨rfl, h6⟩
                  subst h6
                  go_wp2
                  go_ret2
                  exact ⟨by rw [unhide HR, ← unhide HY]; rfl, unhide HB3⟩
            · have HY : Hid (y = Y) := hide (by rw [hY, if_neg (fun h => b2 h.2.1), if_neg (fun h => b2 h.2)])
              have b4 : (n2 : Int) < 4 := by omega
              clear hY b1
              have HDY := hide (fun W => unhide HDAY W (y))
              clear HDAY
              cases hv : vldB Y m d
              · have HR : Hid (docM s.data.toList = none) := hide (by rw [unhide HDM, hv]; rfl)
                rw [unhide HY, dayV_f hv] at HDY
                rw [← unhide HY] at HDY
                clear HDM hv HY
                go_wp2_with fail
                refine (unhide HDY _).mono ?_
                rintro e w6 ⟨rfl, h6⟩
                subst h6
                go_wp2
                go_ret2
                exact ⟨by rw [unhide HR]; rfl, unhide HB3⟩
              · have HR : Hid (docM s.data.toList = some (num Y m d)) := hide (by rw [unhide HDM, hv]; rfl)
                rw [unhide HY, dayV_t hv] at HDY
                rw [← unhide HY] at HDY
                have HRY := hide (congrArg (fun z => num z m d) (unhide HY))
                clear HDM hv
                go_wp2_with fail
                refine (unhide HDY _).mono ?_
                rintro e w6 ⟨rfl, h6⟩
                subst h6
                go_wp2
                go_ret2
                exact ⟨by rw [unhide HR, ← unhide HY]; rfl, unhide HB3⟩
          · have b1' : ((n2 : Int) == 2) = false := by rw [beq_eq_false_iff_ne]; omega
            by_cases b4 : n2 < 4
            · have b4' : (n2 : Int) < 4 := by omega
              by_cases b2 : 0 ≤ y
              · have HY : Hid (y + 1900 = Y) := hide (by rw [hY, if_neg (fun h => b1 h.1), if_pos ⟨b4, b2⟩])
                clear hY b1 b4
                have HDY := hide (fun W => unhide HDAY W (y + 1900))
                clear HDAY
                cases hv : vldB Y m d
                · have HR : Hid (docM s.data.toList = none) := hide (by rw [unhide HDM, hv]; rfl)
                  rw [unhide HY, dayV_f hv] at HDY
                  rw [← unhide HY] at HDY
                  clear HDM hv HY
                  go_wp2_with fail
                  refine (unhide HDY _).mono ?_
                  rintro e w6 ⟨rfl, h6⟩
                  subst h6
                  go_wp2
                  go_ret2
                  exact ⟨by rw [unhide HR]; rfl, unhide HB3⟩
                · have HR : Hid (docM s.data.toList = some (num Y m d)) := hide (by rw [unhide HDM, hv]; rfl)
                  rw [unhide HY, dayV_t hv] at HDY
                  rw [← unhide HY] at HDY
                  have HRY := hide (congrArg (fun z => num z m d) (unhide HY))
                  clear HDM hv
                  go_wp2_with fail
                  refine (unhide HDY _).mono ?_
                  rintro e w6 ⟨rfl, h6⟩
                  subst h6
                  go_wp2
                  go_ret2
                  exact ⟨by rw [unhide HR, ← unhide HY]; rfl, unhide HB3⟩
              · have HY : Hid (y = Y) := hide (by rw [hY, if_neg (fun h => b1 h.1), if_neg (fun h => b2 h.2)])
                clear hY b1 b4
                have HDY := hide (fun W => unhide HDAY W (y))
                clear HDAY
                cases hv : vldB Y m d
                · have HR : Hid (docM s.data.toList = none) := hide (by rw [unhide HDM, hv]; rfl)
                  rw [unhide HY, dayV_f hv] at HDY
                  rw [← unhide HY] at HDY
                  clear HDM hv HY
                  go_wp2_with fail
                  refine (unhide HDY _).mono ?_
                  rintro e w6 ⟨rfl, h6⟩
                  subst h6
                  go_wp2
                  go_ret2
                  exact ⟨by rw [unhide HR]; rfl, unhide HB3⟩
                · have HR : Hid (docM s.data.toList = some (num Y m d)) := hide (by rw [unhide HDM, hv]; rfl)
                  rw [unhide HY, dayV_t hv] at HDY
                  rw [← unhide HY] at HDY
                  have HRY := hide (congrArg (fun z => num z m d) (unhide HY))
                  clear HDM hv
                  go_wp2_with fail
                  refine (unhide HDY _).mono ?_
                  rintro e w6 ⟨rfl, h6⟩
                  subst h6
                  go_wp2
                  go_ret2
                  exact ⟨by rw [unhide HR, ← unhide HY]; rfl, unhide HB3⟩
            · have b4' : ¬ (n2 : Int) < 4 := by omega
              have HY : Hid (y = Y) := hide (by rw [hY, if_neg (fun h => b1 h.1), if_neg (fun h => b4 h.1)])
              clear hY b1 b4
              have HDY := hide (fun W => unhide HDAY W (y))
              clear HDAY
              cases hv : vldB Y m d
              · have HR : Hid (docM s.data.toList = none) := hide (by rw [unhide HDM, hv]; rfl)
                rw [unhide HY, dayV_f hv] at HDY
                rw [← unhide HY] at HDY
                clear HDM hv HY
                go_wp2_with fail
                refine (unhide HDY _).mono ?_
                rintro e w6 ⟨rfl, h6⟩
                subst h6
                go_wp2
                go_ret2
                exact ⟨by rw [unhide HR]; rfl, unhide HB3⟩
              · have HR : Hid (docM s.data.toList = some (num Y m d)) := hide (by rw [unhide HDM, hv]; rfl)
                rw [unhide HY, dayV_t hv] at HDY
                rw [← unhide HY] at HDY
                have HRY := hide (congrArg (fun z => num z m d) (unhide HY))
                clear HDM hv
                go_wp2_with fail
                refine (unhide HDY _).mono ?_
                rintro e w6 ⟨rfl, h6⟩
                subst h6
                go_wp2
                go_ret2
                exact ⟨by rw [unhide HR, ← unhide HY]; rfl, unhide HB3⟩
      · have q1 : ((s[k].toNat : Int) == 44) = false := by
          rw [beq_eq_false_iff_ne]
          intro h
          apply h44
          apply UInt8.toNat_inj.mp
          have : (44 : UInt8).toNat = 44 := rfl
          omega
        have HN2 : Hid (44 ∉ s.data.toList.take (k + 1)) := hide (by
          rw [take_byte s k hlt]
          simp only [List.mem_append, List.mem_singleton, not_or]
          exact ⟨unhide HN, fun h => h44 h.symm⟩)
        clear h44 HN
        go_wp2
        go_round
        case rel => exact ⟨k + 1, rfl, by go_num, by omega, HN2⟩
        case measure => simp [intOf]; omega
    · have hlt' : ¬ (k : Int) < (s.size : Int) := by omega
      have hno := unhide HN
      rw [List.take_of_length_le (by rw [sizeL]; omega)] at hno
      have hcm := comma_none hno
      have HWD := hide (fun W => refWords_any s W (by omega))
      have HDOC : Hid (docM s.data.toList = match wordsL s.data.toList with | q0 :: q1 :: q2 :: _ => docD q0 q1 q2 | _ => none) := hide (by unfold docM; rw [hcm]; rfl)
      have HQ1 : Hid (∀ q0 q1 q2 rest, wordsL s.data.toList = q0 :: q1 :: q2 :: rest → (bts q1).size ≤ 1099511627776) := hide (fun q0 q1 q2 rest h => by have := unhide HWL s.data.toList q1 (by rw [h]; simp); rw [size_bts]; rw [sizeL] at this; omega)
      have HQ2 : Hid (∀ q0 q1 q2 rest, wordsL s.data.toList = q0 :: q1 :: q2 :: rest → q2.length ≤ 4294967280) := hide (fun q0 q1 q2 rest h => by have := unhide HWL s.data.toList q2 (by rw [h]; simp); rw [sizeL] at this; omega)
      clear hcm hno HN HWL hk
      go_wp2_with fail
      refine (unhide HWD _).mono ?_
      clear hs
      rintro e w2 ⟨v, rfl, hrow, hb2⟩
      have HB2 := hide hb2
      clear hb2 HWD
      obtain ⟨av, cap, rfl, hrw⟩ := hrow
      obtain ⟨L, hL⟩ : ∃ L, L = wordsL s.data.toList := ⟨_, rfl⟩
      rw [← hL] at hrw HDOC HQ1 HQ2 ⊢
      clear hL
      have HRW := hide hrw
      clear hrw
      by_cases h3 : L.length < 3
      · have h3' : (L.length : Int) < 3 := by omega
        have HR : Hid (docM s.data.toList = none) := hide (by
          rw [unhide HDOC]
          rcases L with _ | ⟨a, _ | ⟨b, _ | ⟨c, r⟩⟩⟩
          · rfl
          · rfl
          · rfl
          · exact absurd h3 (by simp only [List.length_cons]; omega))
        clear HRW HDOC
        go_wp2
        go_ret2
        exact ⟨by rw [unhide HR]; rfl, unhide HB2⟩
      · obtain ⟨q0, q1, q2, rest, rfl⟩ : ∃ a b c r, L = a :: b :: c :: r := by
          rcases L with _ | ⟨a, _ | ⟨b, _ | ⟨c, r⟩⟩⟩
          · exact absurd (by simp) h3
          · exact absurd (by simp) h3
          · exact absurd (by simp) h3
          · exact ⟨a, b, c, r, rfl⟩
        have h3' : ¬ ((q0 :: q1 :: q2 :: rest).length : Int) < 3 := by omega
        have hdm : docM s.data.toList = docD q0 q1 q2 := unhide HDOC
        obtain ⟨g, rfl, hg, hc⟩ : ∃ g, av = some ⟨g, 0, none⟩ ∧ g < w2.heap.size ∧ ∀ W, Below w2.heap.size w2 W → W.cell? ⟨g, 0, none⟩ = some (.string (bts q0)) ∧ W.cell? ⟨g, 1, none⟩ = some (.string (bts q1)) ∧ W.cell? ⟨g, 2, none⟩ = some (.string (bts q2)) := by
          rcases unhide HRW with h | ⟨g, h1, h2, h4⟩
          · cases h
          · refine ⟨g, h1, h2, fun W hW => ⟨?_, ?_, ?_⟩⟩
            · rw [hW.cell (p := ⟨g, 0, none⟩) h2]; exact h4 0 (by simp)
            · rw [hW.cell (p := ⟨g, 1, none⟩) h2]; exact h4 1 (by simp)
            · rw [hW.cell (p := ⟨g, 2, none⟩) h2]; exact h4 2 (by simp)
        have HC := hide hc
        obtain ⟨n3, hn3⟩ : ∃ n, n = (q0 :: q1 :: q2 :: rest).length := ⟨_, rfl⟩
        have hn3' : 3 ≤ n3 := by rw [hn3]; simp
        have i0 : (0 : Int) < (n3 : Int) := by omega
        have i00 : 0 < n3 := by omega
        have i1 : (1 : Int) < (n3 : Int) := by omega
        have i2 : (2 : Int) < (n3 : Int) := by omega
        rw [← hn3] at h3' ⊢
        clear hn3 hc hg HRW HDOC
        obtain ⟨d, hd⟩ : ∃ d, d = digV (numR q0 1 2) := ⟨_, rfl⟩
        obtain ⟨m, hm⟩ : ∃ m : Int, m = (monR q1 : Int) := ⟨_, rfl⟩
        obtain ⟨y, hy⟩ : ∃ y, y = digV (numR q2 2 4) := ⟨_, rfl⟩
        unfold docD at hdm
        rw [← hd, ← hm, ← hy] at hdm
        have HD1 : Hid (∀ W, Calls Tryd.prog 18 #[.string (bts q0), .int .i64 1, .int .i64 2] W fun e w' => e = .returned (.int .i64 d) ∧ w' = W) := hide (fun W => by
          have := refDigits_any (bts q0) 1 2 W (by omega) (by omega)
          rw [toList_bts] at this
          rw [hd]
          exact this)
        have HD2 : Hid (∀ W, Calls Tryd.prog 18 #[.string (bts q2), .int .i64 2, .int .i64 4] W fun e w' => e = .returned (.int .i64 y) ∧ w' = W) := hide (fun W => by
          have := refDigits_any (bts q2) 2 4 W (by omega) (by omega)
          rw [toList_bts] at this
          rw [hy]
          exact this)
        have HMO : Hid (∀ W, Calls Tryd.prog 19 #[.string (bts q1)] W fun e w' => e = .returned (.int .i64 m) ∧ Below W.heap.size W w') := hide (fun W => by
          have := refMonth_any (bts q1) W (unhide HQ1 q0 q1 q2 rest rfl)
          rw [toList_bts] at this
          rw [hm]
          exact this)
        have hyb : -1 ≤ y ∧ y < 10000 := by
          rw [hy]
          cases hq : numR q2 2 4 with
          | none => simp [digV]
          | some n =>
            have := (numR_le hq).2
            simp only [digV]
            omega
        have hz2 := size_bts q2
        obtain ⟨n2, hn2⟩ : ∃ n, n = q2.length := ⟨_, rfl⟩
        rw [← hn2] at hz2 hdm
        have hn2b : n2 ≤ 4294967280 := by rw [hn2]; exact unhide HQ2 q0 q1 q2 rest rfl
        have HDM := hide hdm
        clear hd hm hy hdm hn2
        generalize bts q0 = x0 at HC HD1
        generalize bts q1 = x1 at HC HMO
        generalize bts q2 = x2 at HC HD2 hz2
        have cc := unhide HC w2 (Below.refl _ _)
        obtain ⟨cc0, cc1, cc2⟩ := cc
        clear HQ1 HQ2 h3
        go_wp2
        go_region_held3 (fun w' => w'.cell? ⟨g, 0, none⟩ = some (.string x0) ∧ w'.cell? ⟨g, 1, none⟩ = some (.string x1) ∧ w'.cell? ⟨g, 2, none⟩ = some (.string x2)) (first | exact unhide HC _ b5 | go_keep) (first
          | (go_at_call_of 18 (Value.string x0); refine (unhide HD1 _).mono ?_; rintro e w3 ⟨rfl, h4⟩; subst h4)
          | (go_at_call_of 18 (Value.string x2); refine (unhide HD2 _).mono ?_; rintro e w4 ⟨rfl, h4⟩; subst h4)
          | (go_at_call 19; refine (unhide HMO _).mono ?_; rintro e w5 ⟨rfl, b5⟩; have b5 := below_drew0 b5))
        have HB3 := hide (belows' (unhide HB2) b5)
        have e2 := (unhide HC _ b5).2.2
        clear HC HD1 HD2 HMO cc0 cc1 cc2 b5 HB2
        go_simp
        have HDAY := hide (fun (W : World) (Y : Int) => refDay_any Y m d W)
        obtain ⟨Y, hY⟩ : ∃ Y, Y = docY y n2 := ⟨_, rfl⟩
        rw [← hY] at HDM
        unfold docY at hY
        have k3 : (3 : Int) < 4 := by omega
        by_cases b1 : n2 = 2
        · have b1' : ((n2 : Int) == 2) = true := by rw [b1]; rfl
          by_cases b2 : 0 ≤ y
          · by_cases b3 : y < 50
            · have HY : Hid (y + 2000 = Y) := hide (by rw [hY, if_pos ⟨b1, b2, b3⟩])
              clear hY b1
              have HDY := hide (fun W => unhide HDAY W (y + 2000))
              clear HDAY
              cases hv : vldB Y m d
              · have HR : Hid (docM s.data.toList = none) := hide (by rw [unhide HDM, hv]; rfl)
                rw [unhide HY, dayV_f hv] at HDY
                rw [← unhide HY] at HDY
                clear HDM hv HY
                go_wp2_with fail
                refine (unhide HDY _).mono ?_
                rintro e w6 ⟨rfl, h6⟩
                subst h6
                go_wp2
                go_ret2
                exact ⟨by rw [unhide HR]; rfl, unhide HB3⟩
              · have HR : Hid (docM s.data.toList = some (num Y m d)) := hide (by rw [unhide HDM, hv]; rfl)
                rw [unhide HY, dayV_t hv] at HDY
                rw [← unhide HY] at HDY
                have HRY := hide (congrArg (fun z => num z m d) (unhide HY))
                clear HDM hv
                go_wp2_with fail
                refine (unhide HDY _).mono ?_
                rintro e w6 ⟨rfl, h6⟩
                subst h6
                go_wp2
                go_ret2
                exact ⟨by rw [unhide HR, ← unhide HY]; rfl, unhide HB3⟩
            · have HY : Hid (y + 1900 = Y) := hide (by rw [hY, if_neg (fun h => b3 h.2.2), if_pos ⟨by omega, b2⟩])
              have b4 : (n2 : Int) < 4 := by omega
              clear hY b1
              have HDY := hide (fun W => unhide HDAY W (y + 1900))
              clear HDAY
              cases hv : vldB Y m d
              · have HR : Hid (docM s.data.toList = none) := hide (by rw [unhide HDM, hv]; rfl)
                rw [unhide HY, dayV_f hv] at HDY
                rw [← unhide HY] at HDY
                clear HDM hv HY
                go_wp2_with fail
                refine (unhide HDY _).mono ?_
                rintro e w6 ⟨rfl, h6⟩
                subst h6
                go_wp2
                go_ret2
                exact ⟨by rw [unhide HR]; rfl, unhide HB3⟩
              · have HR : Hid (docM s.data.toList = some (num Y m d)) := hide (by rw [unhide HDM, hv]; rfl)
                rw [unhide HY, dayV_t hv] at HDY
                rw [← unhide HY] at HDY
                have HRY := hide (congrArg (fun z => num z m d) (unhide HY))
                clear HDM hv
                go_wp2_with fail
                refine (unhide HDY _).mono ?_
                rintro e w6 ⟨rfl, h6⟩
                subst h6
                go_wp2
                go_ret2
                exact ⟨by rw [unhide HR, ← unhide HY]; rfl, unhide HB3⟩
          · have HY : Hid (y = Y) := hide (by rw [hY, if_neg (fun h => b2 h.2.1), if_neg (fun h => b2 h.2)])
            have b4 : (n2 : Int) < 4 := by omega
            clear hY b1
            have HDY := hide (fun W => unhide HDAY W (y))
            clear HDAY
            cases hv : vldB Y m d
            · have HR : Hid (docM s.data.toList = none) := hide (by rw [unhide HDM, hv]; rfl)
              rw [unhide HY, dayV_f hv] at HDY
              rw [← unhide HY] at HDY
              clear HDM hv HY
              go_wp2_with fail
              refine (unhide HDY _).mono ?_
              rintro e w6 ⟨rfl, h6⟩
              subst h6
              go_wp2
              go_ret2
              exact ⟨by rw [unhide HR]; rfl, unhide HB3⟩
            · have HR : Hid (docM s.data.toList = some (num Y m d)) := hide (by rw [unhide HDM, hv]; rfl)
              rw [unhide HY, dayV_t hv] at HDY
              rw [← unhide HY] at HDY
              have HRY := hide (congrArg (fun z => num z m d) (unhide HY))
              clear HDM hv
              go_wp2_with fail
              refine (unhide HDY _).mono ?_
              rintro e w6 ⟨rfl, h6⟩
              subst h6
              go_wp2
              go_ret2
              exact ⟨by rw [unhide HR, ← unhide HY]; rfl, unhide HB3⟩
        · have b1' : ((n2 : Int) == 2) = false := by rw [beq_eq_false_iff_ne]; omega
          by_cases b4 : n2 < 4
          · have b4' : (n2 : Int) < 4 := by omega
            by_cases b2 : 0 ≤ y
            · have HY : Hid (y + 1900 = Y) := hide (by rw [hY, if_neg (fun h => b1 h.1), if_pos ⟨b4, b2⟩])
              clear hY b1 b4
              have HDY := hide (fun W => unhide HDAY W (y + 1900))
              clear HDAY
              cases hv : vldB Y m d
              · have HR : Hid (docM s.data.toList = none) := hide (by rw [unhide HDM, hv]; rfl)
                rw [unhide HY, dayV_f hv] at HDY
                rw [← unhide HY] at HDY
                clear HDM hv HY
                go_wp2_with fail
                refine (unhide HDY _).mono ?_
                rintro e w6 ⟨rfl, h6⟩
                subst h6
                go_wp2
                go_ret2
                exact ⟨by rw [unhide HR]; rfl, unhide HB3⟩
              · have HR : Hid (docM s.data.toList = some (num Y m d)) := hide (by rw [unhide HDM, hv]; rfl)
                rw [unhide HY, dayV_t hv] at HDY
                rw [← unhide HY] at HDY
                have HRY := hide (congrArg (fun z => num z m d) (unhide HY))
                clear HDM hv
                go_wp2_with fail
                refine (unhide HDY _).mono ?_
                rintro e w6 ⟨rfl, h6⟩
                subst h6
                go_wp2
                go_ret2
                exact ⟨by rw [unhide HR, ← unhide HY]; rfl, unhide HB3⟩
            · have HY : Hid (y = Y) := hide (by rw [hY, if_neg (fun h => b1 h.1), if_neg (fun h => b2 h.2)])
              clear hY b1 b4
              have HDY := hide (fun W => unhide HDAY W (y))
              clear HDAY
              cases hv : vldB Y m d
              · have HR : Hid (docM s.data.toList = none) := hide (by rw [unhide HDM, hv]; rfl)
                rw [unhide HY, dayV_f hv] at HDY
                rw [← unhide HY] at HDY
                clear HDM hv HY
                go_wp2_with fail
                refine (unhide HDY _).mono ?_
                rintro e w6 ⟨rfl, h6⟩
                subst h6
                go_wp2
                go_ret2
                exact ⟨by rw [unhide HR]; rfl, unhide HB3⟩
              · have HR : Hid (docM s.data.toList = some (num Y m d)) := hide (by rw [unhide HDM, hv]; rfl)
                rw [unhide HY, dayV_t hv] at HDY
                rw [← unhide HY] at HDY
                have HRY := hide (congrArg (fun z => num z m d) (unhide HY))
                clear HDM hv
                go_wp2_with fail
                refine (unhide HDY _).mono ?_
                rintro e w6 ⟨rfl, h6⟩
                subst h6
                go_wp2
                go_ret2
                exact ⟨by rw [unhide HR, ← unhide HY]; rfl, unhide HB3⟩
          · have b4' : ¬ (n2 : Int) < 4 := by omega
            have HY : Hid (y = Y) := hide (by rw [hY, if_neg (fun h => b1 h.1), if_neg (fun h => b4 h.1)])
            clear hY b1 b4
            have HDY := hide (fun W => unhide HDAY W (y))
            clear HDAY
            cases hv : vldB Y m d
            · have HR : Hid (docM s.data.toList = none) := hide (by rw [unhide HDM, hv]; rfl)
              rw [unhide HY, dayV_f hv] at HDY
              rw [← unhide HY] at HDY
              clear HDM hv HY
              go_wp2_with fail
              refine (unhide HDY _).mono ?_
              rintro e w6 ⟨rfl, h6⟩
              subst h6
              go_wp2
              go_ret2
              exact ⟨by rw [unhide HR]; rfl, unhide HB3⟩
            · have HR : Hid (docM s.data.toList = some (num Y m d)) := hide (by rw [unhide HDM, hv]; rfl)
              rw [unhide HY, dayV_t hv] at HDY
              rw [← unhide HY] at HDY
              have HRY := hide (congrArg (fun z => num z m d) (unhide HY))
              clear HDM hv
              go_wp2_with fail
              refine (unhide HDY _).mono ?_
              rintro e w6 ⟨rfl, h6⟩
              subst h6
              go_wp2
              go_ret2
              exact ⟨by rw [unhide HR, ← unhide HY]; rfl, unhide HB3⟩
end Go.Proofs.YtoegfnonfmcnbaaDoor
