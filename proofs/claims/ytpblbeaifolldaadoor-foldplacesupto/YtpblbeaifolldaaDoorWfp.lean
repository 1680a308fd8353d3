/-
  The walk of missivelaw07.FoldPlaces, over this seat's program.
-/
import Derived.Test.YtpblbeaifolldaaDoorApr
import Derived.Test.YtpblbeaifolldaaDoorFlv
set_option linter.unusedVariables false
namespace Go.Proofs.YtpblbeaifolldaaDoor.foldPlaces
open Go.RowKit Go.Proofs.Rns Go.Proofs.Fol Go.Proofs.Kmp

/-- How many of the first k places something stands at. -/
def plc (p l : List Int) : Nat → Nat
  | 0 => 0
  | k + 1 => plc p l k + (if p <+: l.drop k then 1 else 0)
theorem plc_le (p l : List Int) : ∀ k, plc p l k ≤ k
  | 0 => Nat.le_refl _
  | k + 1 => by
    have := plc_le p l k
    simp only [plc]
    split <;> omega
theorem plc_places (p l : List Int) : ∀ k, k ≤ l.length → plc p l k + places p (l.drop k) = places p l
  | 0, _ => by simp [plc]
  | k + 1, h => by
    have ih := plc_places p l k (by omega)
    rw [List.drop_eq_getElem_cons (by omega), places, ← List.drop_eq_getElem_cons (by omega)] at ih
    simp only [plc]
    omega
theorem plc_all (p l : List Int) : plc p l l.length + (if p = [] then 1 else 0) = places p l := by
  have := plc_places p l l.length (Nat.le_refl _)
  rw [List.drop_length] at this
  exact this
/-- What the inner loop knows. -/
def In (p l : List Int) (i k : Nat) (b : Bool) : Prop := (b = true → i + p.length ≤ l.length ∧ p.take k = (l.drop i).take k) ∧ (b = false → ¬ p <+: l.drop i)
theorem in_start (p l : List Int) (i : Nat) (hi : i ≤ l.length) : In p l i 0 (decide (p.length ≤ l.length - i)) := by
  constructor
  · intro h
    simp at h
    exact ⟨by omega, by simp⟩
  · intro h hp
    simp at h
    have := hp.length_le
    rw [List.length_drop] at this
    omega
theorem in_step {p l : List Int} {i k : Nat} (h : In p l i k true) (hk : k < p.length) : ∃ hik : i + k < l.length, In p l i (k + 1) (l[i + k] == p[k]) := by
  obtain ⟨hl, ht⟩ := h.1 rfl
  refine ⟨by omega, ?_, ?_⟩
  · intro he
    have he : l[i + k] = p[k] := by simpa using he
    refine ⟨hl, ?_⟩
    rw [List.take_succ_eq_append_getElem hk, List.take_succ_eq_append_getElem (by rw [List.length_drop]; omega), ht, List.getElem_drop, he]
  · intro he hp
    have he : ¬ l[i + k] = p[k] := by simpa using he
    apply he
    obtain ⟨r, hr⟩ := hp
    have : (l.drop i)[k]? = p[k]? := by rw [← hr, List.getElem?_append_left hk]
    rw [List.getElem?_drop, List.getElem?_eq_getElem (by omega), List.getElem?_eq_getElem hk] at this
    exact Option.some.inj this
theorem in_end {p l : List Int} {i k : Nat} {b : Bool} (h : In p l i k b) (hk : b = true → p.length ≤ k) : b = decide (p <+: l.drop i) := by
  cases b with
  | false => rw [decide_eq_false (h.2 rfl)]
  | true =>
    obtain ⟨hl, ht⟩ := h.1 rfl
    have hk' := hk rfl
    rw [List.take_of_length_le hk'] at ht
    have : p <+: l.drop i := by rw [ht]; exact List.take_prefix _ _
    rw [decide_eq_true this]

set_option maxHeartbeats 1000000 in
set_option maxRecDepth 100000 in
theorem walk (v0 : Value) (l : List Int) (v1 : Value) (p : List Int) (a2 : Int) (w : World) (ht : RTab w) (w0 : RowI w v0 l) (n0 : Neat v0) (w1 : RowI w v1 p) (n1 : Neat v1) (w2 : (Lit.int .i32 a2).wf = true) (hsum : l.length + p.length ≤ 1048576) :
    Calls Tryd.prog 7 #[v0, v1, .int .i32 a2] w fun e w' => e = .returned (.bool true) ∧ Below w.heap.size w w' := by
  have hr := i32_range w2
  have HL := hide (foldLives_any w ht)
  have HR0 := hide w0
  have HR1 := hide w1
  have HN1 := hide n1
  have HRG := hide hr
  obtain ⟨a, cap, rfl, _, hc⟩ := w0
  obtain ⟨a', cap', rfl, _, hc'⟩ := w1
  have HC := hide hc
  have HC' := hide hc'
  clear ht n0 n1 w2 hc hc' hr
  go_enter Tryd.func7, Tryd.ntmps7
  go_wp2_with fail
  refine (unhide HL).mono ?_
  rintro e u1 ⟨rfl, b1⟩
  have HB1 := hide b1
  clear b1 HL
  go_wp2
  go_loopw [7, 16] (fun y z wr => ∃ i : Nat, z = .int .i64 i ∧ y = .int .i64 (plc p l i : Int) ∧ i ≤ l.length ∧ Hid (Below w.heap.size w wr)) (fun _ z _ => l.length - (intOf z).toNat)
  case atStart => exact ⟨0, rfl, rfl, Nat.zero_le _, HB1⟩
  case round =>
    obtain ⟨i, rfl, rfl, hi, HB⟩ := hrel
    have hpl := plc_le p l i
    by_cases hlt : i < l.length
    · have hlt1 : (i : Int) < (l.length : Int) := by omega
      have hst := in_start p l i hi
      obtain ⟨b0, hb0⟩ : ∃ b0, b0 = decide (p.length ≤ l.length - i) := ⟨_, rfl⟩
      rw [← hb0] at hst
      have HST := hide hst
      have v0 : IntKind.i64.wrap ((l.length : Int) - (i : Int)) = ((l.length - i : Nat) : Int) := by rw [IntKind.wrap_i64]; omega
      obtain ⟨m, hm⟩ : ∃ m, m = l.length - i := ⟨_, rfl⟩
      have v1 : (l.length : Int) - (i : Int) = (m : Int) := by omega
      have v2 : wrap64 (m : Int) = (m : Int) := by unfold wrap64; omega
      have hbm : decide ((p.length : Int) ≤ (m : Int)) = b0 := by
        rw [hb0, hm]
        apply decide_eq_decide.mpr
        omega
      have hbm' : decide (p.length ≤ m) = b0 := by rw [hb0, hm]
      obtain ⟨q, hq⟩ : ∃ q, q = plc p l i := ⟨_, rfl⟩
      have HQ := hide hq
      rw [← hq] at hpl ⊢
      clear hst v0 hb0 hq
      go_wp2
      go_loopw [9, 10] (fun y z wr => ∃ (k : Nat) (b : Bool), z = .int .i64 k ∧ y = .bool b ∧ k ≤ p.length ∧ Hid (In p l i k b) ∧ Hid (Below w.heap.size w wr)) (fun _ z _ => p.length - (intOf z).toNat)
      case atStart => exact ⟨0, b0, rfl, by rw [← hbm', hm], Nat.zero_le _, HST, HB⟩
      case round =>
        obtain ⟨k, b, rfl, rfl, hk, HI, HB2⟩ := hrel
        cases b with
        | true =>
          by_cases hkp : k < p.length
          · have hkp1 : (k : Int) < (p.length : Int) := by omega
            obtain ⟨hik, hin⟩ := in_step (unhide HI) hkp
            obtain ⟨ik, hikq⟩ : ∃ ik, ik = i + k := ⟨_, rfl⟩
            have hx : ∃ b off, a = some ⟨b, off, none⟩ ∧ wr.cell? ⟨b, off + ik, none⟩ = some (.int .i32 l[i + k]) := by
              rcases unhide HC with h | ⟨b, off, ha, hb, hcj⟩
              · subst h; simp at hlt
              · exact ⟨b, off, ha, by rw [hikq]; exact ((unhide HB2).cell (p := ⟨b, off + (i + k), none⟩) hb).trans (hcj (i + k) hik)⟩
            have hy : ∃ b off, a' = some ⟨b, off, none⟩ ∧ wr.cell? ⟨b, off + k, none⟩ = some (.int .i32 p[k]) := by
              rcases unhide HC' with h | ⟨b, off, ha, hb, hcj⟩
              · subst h; simp at hkp
              · exact ⟨b, off, ha, ((unhide HB2).cell (p := ⟨b, off + k, none⟩) hb).trans (hcj k hkp)⟩
            obtain ⟨b, off, ha, hcx⟩ := hx
            obtain ⟨b', off', ha', hcy⟩ := hy
            subst ha ha'
            have v3 : IntKind.i64.wrap ((i : Int) + (k : Int)) = (ik : Int) := by rw [IntKind.wrap_i64]; omega
            have hik1 : (ik : Int) < (l.length : Int) := by omega
            have HIN := hide hin
            generalize l[i + k] = x at hcx HIN
            generalize p[k] = z at hcy HIN
            clear hin hikq hik hm v1 v2
            go_wp2
            go_quiet (fail)
            go_wp2
            exact ⟨⟨k + 1, x == z, by go_num, rfl, by omega, HIN, by have h := unhide HB2; exact ⟨h.os, h.tape, h.output, h.size, h.block⟩⟩, by simp [intOf]; omega⟩
          · have hkp1 : ¬ (k : Int) < (p.length : Int) := by omega
            have hfin := in_end (unhide HI) (fun _ => by omega)
            have HF : Hid (plc p l (i + 1) = q + 1) := by
              simp only [plc]
              rw [← unhide HQ, if_pos (by simpa using hfin.symm)]
              exact hide rfl
            clear hfin hm v1 v2
            go_wp2
            exact ⟨⟨i + 1, by go_num, by rw [unhide HF]; go_num, by omega, HB2⟩, by simp [intOf]; omega⟩
        | false =>
          have hfin := in_end (unhide HI) (fun h => by cases h)
          have HF : Hid (plc p l (i + 1) = q) := by
            simp only [plc]
            rw [← unhide HQ, if_neg (by simpa using hfin.symm)]
            exact hide rfl
          clear hfin hm v1 v2
          go_wp2
          exact ⟨⟨i + 1, by go_num, by rw [unhide HF], by omega, HB2⟩, by simp [intOf]; omega⟩
    · have hlt1 : ¬ (i : Int) < (l.length : Int) := by omega
      have hil : i = l.length := by omega
      subst hil
      have hall := plc_all p l
      have HR0z := hide ((unhide HR0).below (unhide HB))
      have HR1z := hide ((unhide HR1).below (unhide HB))
      obtain ⟨va, wa, hra, hoa, hba, _, hna⟩ := run_append_rowI (wr.alloc (.cells #[] 21)) wr.heap.size _ _ [] p 22 (own_empty wr) ((unhide HR1z).below ((Below.refl _ wr).alloc (Nat.le_refl _) _)) (unhide HN1) (by simp; omega) (by simp)
      have hba' : Below wr.heap.size wr wa := ((Below.refl _ wr).alloc (Nat.le_refl _) _).trans hba
      have hza := hba'.size
      obtain ⟨vb, wb, hrb, hob, hbb, _, hnb⟩ := run_append_rowI (wa.alloc (.cells #[.int .i32 a2] 21)) wr.heap.size va (.slice (some ⟨wa.heap.size, 0, none⟩) 1 1) ([] ++ p) [a2] 22 (hoa.alloc _) (lit_rowI wa [a2] _ rfl (by simpa using unhide HRG) 1 rfl) (neat_some _ _ _) (by simp; omega) (by simp; omega)
      have hbw : Below wr.heap.size wr wb := (hba'.alloc hza _).trans hbb
      obtain ⟨lb, hlb⟩ : ∃ lb, lb = p ++ [a2] := ⟨_, rfl⟩
      have hrow := own_rowC hob (by
        intro n hn
        simp only [List.nil_append, List.mem_append, List.mem_singleton] at hn
        rcases hn with hn | rfl
        · exact (unhide HR1).range n hn
        · exact unhide HRG)
      rw [List.nil_append, ← hlb] at hrow
      have hlbl : lb.length ≤ 1048577 := by rw [hlb, List.length_append]; simp; omega
      have HX1 := hide (count_any' _ _ l p wb ((unhide HR0z).below hbw) ((unhide HR1z).below hbw) (by omega) (by omega))
      have HX2 := hide (fun W (h : Below wb.heap.size wb W) => has_any _ _ l p W (((unhide HR0z).below hbw).below h) (((unhide HR1z).below hbw).below h) (by omega) (by omega))
      have HX3 := hide (fun W (h : Below wb.heap.size wb W) => count_any' _ _ l lb W (((unhide HR0z).below hbw).below h) (hrow.below h) (by omega) (by omega))
      have hmore := places_more p a2 l
      rw [← hlb] at hmore
      have hpll : places p l ≤ l.length + 1 := by rw [← hall]; split <;> omega
      have HBW := hide hbw
      generalize places lb l = y at HX3 hmore
      obtain ⟨x, hx⟩ : ∃ x, places p l = x := ⟨_, rfl⟩
      rw [hx] at HX1 HX2 hmore hall hpll
      have exx : ((x : Int) == (x : Int)) = true := by simp
      have ebb : (decide (0 < x) == decide (0 < x)) = true := by simp
      have eyx : (y : Int) ≤ (x : Int) := by omega
      clear hbw hbb hba hba' hna hnb hoa hob hrow hlb hx
      by_cases hp : p = []
      · have hp0 : ((p.length : Int) == 0) = true := by simp [hp]
        have hv : plc p l l.length + 1 = x := by rw [if_pos hp] at hall; exact hall
        have HV := hide hv
        generalize plc p l l.length = q at hv HV hpl
        clear hall hp
        have v1 : (q : Int) + 1 = (x : Int) := by omega
        have v2 : wrap64 (x : Int) = (x : Int) := by unfold wrap64; omega
        clear hv
        go_wp2_with (at_builtin; first | refine wpList_append_run (by rfl) _ _ 22 rfl rfl rfl rfl hra ?_ | refine wpList_append_run (by rfl) _ _ 22 rfl rfl rfl rfl hrb ?_)
        refine (unhide HX1).mono ?_
        rintro e u3 ⟨rfl, b3⟩
        have HB3 := hide b3
        clear b3
        go_wp2_with fail
        refine (unhide HX2 _ (unhide HB3)).mono ?_
        rintro e u4 ⟨rfl, b4⟩
        have HB4 := hide (belows' (unhide HB3) b4)
        clear b4
        go_wp2_with fail
        refine (unhide HX3 _ (unhide HB4)).mono ?_
        rintro e u5 ⟨rfl, b5⟩
        have HB5 := hide (belows' (unhide HB4) b5)
        clear b5
        go_wp2
        go_ret
        exact ⟨rfl, belows' (belows' (unhide HB) (unhide HBW)) (unhide HB5)⟩
      · have hp0 : ((p.length : Int) == 0) = false := by simpa using hp
        have hv : plc p l l.length = x := by rw [if_neg hp] at hall; exact hall
        rw [hv]
        clear hall hp hv hpl
        go_wp2_with (at_builtin; first | refine wpList_append_run (by rfl) _ _ 22 rfl rfl rfl rfl hra ?_ | refine wpList_append_run (by rfl) _ _ 22 rfl rfl rfl rfl hrb ?_)
        refine (unhide HX1).mono ?_
        rintro e u3 ⟨rfl, b3⟩
        have HB3 := hide b3
        clear b3
        go_wp2_with fail
        refine (unhide HX2 _ (unhide HB3)).mono ?_
        rintro e u4 ⟨rfl, b4⟩
        have HB4 := hide (belows' (unhide HB3) b4)
        clear b4
        go_wp2_with fail
        refine (unhide HX3 _ (unhide HB4)).mono ?_
        rintro e u5 ⟨rfl, b5⟩
        have HB5 := hide (belows' (unhide HB4) b5)
        clear b5
        go_wp2
        go_ret
        exact ⟨rfl, belows' (belows' (unhide HB) (unhide HBW)) (unhide HB5)⟩
end Go.Proofs.YtpblbeaifolldaaDoor.foldPlaces
