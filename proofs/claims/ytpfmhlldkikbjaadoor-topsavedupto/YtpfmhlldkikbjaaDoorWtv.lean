/-
  What missivetop.TopSaved does, over this seat's program: it answers true.
-/
import Derived.Test.YtpfmhlldkikbjaaDoorBgn
import Derived.Test.YtpfmhlldkikbjaaDoorNfm
import Derived.Test.YtpfmhlldkikbjaaDoorNwp
import Derived.Test.YtpfmhlldkikbjaaDoorNwb
import Derived.Test.YtpfmhlldkikbjaaDoorNsw
import Derived.Test.YtpfmhlldkikbjaaDoorBnd4
import Derived.Test.YtpfmhlldkikbjaaDoorBnd2
import Derived.Test.YtpfmhlldkikbjaaDoorBnd5
import Derived.Test.YtpfmhlldkikbjaaDoorBnd1
set_option linter.unusedVariables false
set_option linter.unusedSimpArgs false
namespace Go.Proofs.YtpfmhlldkikbjaaDoor
open Go.RowKit Go.Proofs.Nst Go.Proofs.Dsk

def setN : ByteArray := { data := #[115, 101, 116] }
def D1 : Fs := ⟨1048576, [], -1, -1, false⟩
def D2 : Fs := ⟨1048576, [⟨{ data := #[115, 101, 116] }, ByteArray.empty, 0⟩], -1, -1, false⟩
def D3 (s : ByteArray) : Fs := ⟨1048576, [⟨{ data := #[115, 101, 116] }, s, 0⟩], -1, -1, false⟩
def D4 (s : ByteArray) : Fs := ⟨1048576, [⟨{ data := #[115, 101, 116] }, s, s.size⟩], -1, -1, false⟩
theorem make_is : makeR 1048576 = (D1, 0) := by decide
theorem create_is : createR D1 { data := #[115, 101, 116] } = (D2, 0) := by decide
theorem right_one {s : ByteArray} {y : Int} (hs : s.size ≤ 22528) (h0 : 0 ≤ y) (h1 : y ≤ s.size) : right ⟨1048576, [⟨{ data := #[115, 101, 116] }, s, y⟩], -1, -1, false⟩ = true := by
  refine right_yes (headOk_yes.2 ⟨by show (0 : Int) ≤ 1048576; decide, by show (1048576 : Int) ≤ 16777216; decide, by show ([_] : List File).length ≤ 1024; simp, by show (-1 : Int) ≤ -1; decide, by show (-1 : Int) ≤ -1; decide⟩) ?_ ?_ (List.pairwise_singleton _ _)
  · show (used [⟨{ data := #[115, 101, 116] }, s, y⟩] : Int) ≤ 1048576
    simp only [used, List.map_cons, List.map_nil, List.sum_cons, List.sum_nil]
    omega
  · show [(⟨{ data := #[115, 101, 116] }, s, y⟩ : File)].all fileOk = true
    simp only [List.all_cons, List.all_nil, Bool.and_true]
    unfold fileOk
    simp only [Bool.and_eq_true, decide_eq_true_eq]
    exact ⟨⟨by decide, h0⟩, h1⟩
theorem has_one (s : ByteArray) (y : Int) : has [⟨{ data := #[115, 101, 116] }, s, y⟩] { data := #[115, 101, 116] } = true ∧ lb [⟨{ data := #[115, 101, 116] }, s, y⟩] { data := #[115, 101, 116] } = 0 := by
  refine ⟨by simp [has], ?_⟩
  unfold lb
  rw [List.countP_eq_zero]
  intro f hf
  have : f = ⟨{ data := #[115, 101, 116] }, s, y⟩ := by simpa using hf
  rw [this]
  simpa using lt_irrefl _
theorem join_one (s : ByteArray) : joinB ByteArray.empty [s] = s := by
  apply Go.Proofs.Dsk.ext_toList
  simp [joinB]
theorem append_is {s : ByteArray} (hs : s.size ≤ 22528) : appendR D2 { data := #[115, 101, 116] } [s] = (D3 s, 0) := by
  have hr : right D2 = true := right_one (s := ByteArray.empty) (by decide) (by decide) (by decide)
  have e : appendR D2 { data := #[115, 101, 116] } [s] = workR D2 (onR { data := #[115, 101, 116] } (appendC [s])) := rfl
  rw [e]
  unfold workR
  rw [if_neg (by simp [hr]), if_neg (by decide)]
  unfold onR
  obtain ⟨h1, h2⟩ := has_one ByteArray.empty 0
  rw [show has D2.files { data := #[115, 101, 116] } = true from h1, if_pos rfl, show lb D2.files { data := #[115, 101, 116] } = 0 from h2]
  unfold appendC
  rw [if_pos (by show ((used D2.files : Nat) : Int) + (total [s] : Nat) ≤ 1048576; have h9 : used D2.files = 0 := (by decide); rw [h9]; simp only [total, List.map_cons, List.map_nil, List.sum_cons, List.sum_nil]; omega), if_neg (by decide)]
  unfold changeR
  rw [if_neg (by decide), if_neg (by decide)]
  show (putAt 0 [s] (spent D2), 0) = _
  have hsp : spent D2 = D2 := by decide
  rw [hsp]
  show ((⟨1048576, [⟨{ data := #[115, 101, 116] }, joinB ByteArray.empty [s], 0⟩], -1, -1, false⟩ : Fs), 0) = _
  rw [join_one]
  rfl
theorem sync_is {s : ByteArray} (hs : s.size ≤ 22528) : syncR (D3 s) { data := #[115, 101, 116] } = (D4 s, 0) := by
  have hr : right (D3 s) = true := right_one hs (by decide) (by omega)
  unfold syncR workR
  rw [if_neg (by simp [hr]), if_neg (by show ¬ (false : Bool) = true; decide)]
  unfold onR
  obtain ⟨h1, h2⟩ := has_one s 0
  rw [show has (D3 s).files { data := #[115, 101, 116] } = true from h1, if_pos rfl, show lb (D3 s).files { data := #[115, 101, 116] } = 0 from h2]
  dsimp only
  unfold changeR
  rw [if_neg (by show ¬ (-1 : Int) = 0; decide), if_neg (by show ¬ (-1 : Int) = 0; decide)]
  rfl
/-- What is left in the end begins with what was synced. -/
theorem saved_last {s : ByteArray} (more : ByteArray) (keep : List Int) (hs : s.size ≤ 22528) :
    ∃ c t, crashR (appendR (D4 s) { data := #[115, 101, 116] } [more]).1 keep = (c, 0) ∧ readR c { data := #[115, 101, 116] } = (t, 0) ∧ s.size ≤ t.size ∧ t.extract 0 s.size = s := by
  have hr : right (D4 s) = true := right_one hs (by omega) (by omega)
  obtain ⟨hr5, hm⟩ := append_more (d := D4 s) { data := #[115, 101, 116] } [more] hr
  generalize (appendR (D4 s) { data := #[115, 101, 116] } [more]).1 = e5 at hr5 hm ⊢
  obtain ⟨hl, hm⟩ := hm
  have hi : 0 < e5.files.length := by rw [hl]; show 0 < ([_] : List File).length; simp
  obtain ⟨m1, m2, m3⟩ := hm 0 (by show 0 < ([_] : List File).length; simp) hi
  obtain ⟨t, ht, hp⟩ := safe (d := e5) (n := { data := #[115, 101, 116] }) (was := s) keep hr5 hi m1 m2 (by rw [m3]; show (s.size : Int) ≤ (s.size : Int); omega)
  refine ⟨_, t, ?_, ht, hp.le, hp.cut⟩
  unfold crashR
  rw [if_neg (by simp [hr5])]
theorem fitD {s : ByteArray} {y : Int} (hs : s.size ≤ 22528) (h0 : 0 ≤ y) (h1 : y ≤ 22528) : FitAll ⟨1048576, [⟨{ data := #[115, 101, 116] }, s, y⟩], -1, -1, false⟩ :=
  ⟨⟨⟨by show (-9223372036854775808 : Int) ≤ 1048576; decide, by show (1048576 : Int) ≤ 9223372036854775807; decide⟩, ⟨by show (-9223372036854775808 : Int) ≤ -1; decide, by show (-1 : Int) ≤ 9223372036854775807; decide⟩, ⟨by show (-9223372036854775808 : Int) ≤ -1; decide, by show (-1 : Int) ≤ 9223372036854775807; decide⟩⟩, fun f hf => by
    have : f = ⟨{ data := #[115, 101, 116] }, s, y⟩ := by simpa using hf
    rw [this]
    exact ⟨by show (3 : Nat) ≤ _; decide, by show s.size ≤ _; omega, by show (-9223372036854775808 : Int) ≤ y; omega, by show y ≤ (9223372036854775807 : Int); omega⟩, by show ([_] : List File).length ≤ _; simp⟩
theorem fitD1 : FitAll D1 := ⟨⟨⟨by decide, by decide⟩, ⟨by decide, by decide⟩, ⟨by decide, by decide⟩⟩, fun f hf => by simp [D1] at hf, by decide⟩
theorem formF {w : World} {v : Value} {l : List File} {n : Nat} (h : RowF w v l) (hn : l.length = n) : ∃ a cap, v = .slice a n cap := by
  obtain ⟨a, cap, hv, _⟩ := h
  exact ⟨a, cap, by rw [hv, hn]⟩
theorem rowS_new1 (w : World) (s : ByteArray) (hs : s.size ≤ 9223372036854775807) : RowS (w.alloc (Obj.cells #[.string s] 9)) (.slice (some ⟨w.heap.size, 0, none⟩) 1 1) [s] := by
  refine ⟨_, 1, rfl, by simp, by simpa using hs, Or.inr ⟨w.heap.size, 0, rfl, by simp, fun j hj => ?_⟩⟩
  have : j = 0 := by simpa using hj
  subst this
  rw [Nat.zero_add, (Blk.new w _ _).cell 0]
  rfl

set_option maxHeartbeats 16000000 in
set_option maxRecDepth 100000 in
theorem topSaved_walk (vl : Value) (l : List Sp) (more : ByteArray) (vk : Value) (keep : List Int) (most n : Nat) (w : World) (hE : TabB w) (hl : RowSp w vl l) (hkp : RowI w vk keep) (hmore : more.size ≤ 1048576) :
    Calls Tryd.prog 3 #[vl, .string more, vk, .int .u32 (most : Int), .int .u32 (n : Int)] w fun e w' => e = .returned (.bool true) ∧ Below w.heap.size w w' := by
  have hfit : ∀ x ∈ l, FitS x := (by obtain ⟨_, _, _, _, h, _⟩ := hl; exact h)
  have HFT := hide hfit
  have HBG := hide (fun X => begins_any X)
  have HW := hide (fun (X : World) (hX : RowSp X vl l) (hT : TabB X) => nwrite_any vl l X hX (fun x hx => ⟨fun _ => fmt_any X x.1 (hfit x hx).1 hT.2, fun _ => fmt_any X x.2 (hfit x hx).2 hT.2⟩))
  have HL := hide hl
  have HT := hide hE
  have HK := hide hkp
  clear hfit hl hE hkp
  have sE : (ByteArray.mk #[]).toList.isEmpty = true := by rw [ByteArray.toList_eq]; rfl
  by_cases hbad : l = [] ∨ 1024 < l.length
  · have hw : writeR l = ([], 1) := by unfold writeR; rw [if_pos hbad]
    rw [hw] at HW
    simp only [show (⟨([] : List UInt8).toArray⟩ : ByteArray) = { data := #[] } from rfl] at HW
    clear hw hbad HFT
    go_enter Tryd.func3, Tryd.ntmps3
    go_wp2_with fail
    refine (unhide HBG _).mono ?_
    rintro e w1 ⟨rfl, b1⟩
    have HL1 := hide (RowSp.below (unhide HL) b1)
    have HT1 := hide ((unhide HT).below b1)
    have BX := hide b1
    clear b1 HL HT HK HBG
    go_wp2_with fail
    refine (unhide HW _ (unhide HL1) (unhide HT1)).mono ?_
    rintro e w2 ⟨rfl, b2⟩
    have B2 := hide (belows (unhide BX) b2)
    clear b2 HW HL1 HT1 BX
    go_wp2
    go_ret
    exact ⟨by simp, unhide B2⟩
  · have h0 : l ≠ [] := fun e => hbad (.inl e)
    have h1 : l.length ≤ 1024 := by rcases Nat.lt_or_ge 1024 l.length with h | h; exact absurd (.inr h) hbad; exact h
    obtain ⟨hpw, hsz⟩ := parse_write h0 h1 (unhide HFT)
    have hw : writeR l = (writeP l, 0) := by unfold writeR; rw [if_neg hbad]
    rw [hw] at HW
    simp only at HW
    clear hw hbad h0
    obtain ⟨s, hs⟩ : ∃ s : ByteArray, (⟨(writeP l).toArray⟩ : ByteArray) = s := ⟨_, rfl⟩
    have hsd : s.data.toList = writeP l := by rw [← hs]
    have hss : s.size ≤ 22528 := by rw [← sizeL, hsd]; exact hsz
    rw [hs] at HW
    have HPA := hide (fun (X : World) (hT : TabB X) => nparse_any s X hT.1 (by omega))
    rw [hsd, hpw] at HPA
    simp only at HPA
    have HLN := hide h1
    clear hs hsd hpw hsz h1
    obtain ⟨c6, t, hc6, ht, htl, htc⟩ := saved_last more keep hss
    have hsl := fun W => slice_upto t (s.size : Int) s.size rfl htl W
    rw [htc] at hsl
    have HMK : Hid (∀ X : World, Calls Tryd.prog 6 #[.int .i64 1048576] X fun e w' => ∃ v', e = .returned (.tuple #[.agg #[.int .i64 1048576, v', .int .i64 (-1), .int .i64 (-1), .bool false], .int .i64 0]) ∧ RowF w' v' (D1).files ∧ Below X.heap.size X w') := hide (fun X => by
      have h := make_any 1048576 X (by omega) (by omega)
      rw [make_is] at h
      exact h.mono (fun e w' ⟨v', h1, h2, _, h3⟩ => ⟨v', h1, h2, h3⟩))
    have HCR : Hid (∀ (X : World) (a : Option Addr) (cap : Nat), RowF X (.slice a 0 cap) D1.files → Calls Tryd.prog 7 #[.agg #[.int .i64 1048576, .slice a 0 cap, .int .i64 (-1), .int .i64 (-1), .bool false], .string { data := #[115, 101, 116] }] X fun e w' => ∃ v', e = .returned (.tuple #[.agg #[.int .i64 1048576, v', .int .i64 (-1), .int .i64 (-1), .bool false], .int .i64 0]) ∧ RowF w' v' (D2).files ∧ Below X.heap.size X w') := hide (fun X a cap hX => by
      have h := create_any D1 (.slice a 0 cap) { data := #[115, 101, 116] } X fitD1 hX (by decide)
      rw [create_is] at h
      exact h.mono (fun e w' ⟨v', h1, h2, _, h3⟩ => ⟨v', h1, h2, h3⟩))
    have HAP : Hid (∀ (X : World) (a : Option Addr) (cap p : Nat), RowF X (.slice a 1 cap) D2.files → RowS X (.slice (some ⟨p, 0, none⟩) 1 1) [s] → Calls Tryd.prog 8 #[.agg #[.int .i64 1048576, .slice a 1 cap, .int .i64 (-1), .int .i64 (-1), .bool false], .string { data := #[115, 101, 116] }, .slice (some ⟨p, 0, none⟩) 1 1] X fun e w' => ∃ v', e = .returned (.tuple #[.agg #[.int .i64 1048576, v', .int .i64 (-1), .int .i64 (-1), .bool false], .int .i64 0]) ∧ RowF w' v' (D3 s).files ∧ Below X.heap.size X w') := hide (fun X a cap p hX hS => by
      have h := append_any D2 (.slice a 1 cap) { data := #[115, 101, 116] } (some ⟨p, 0, none⟩) 1 1 [s] X (fitD (by decide) (by decide) (by decide)) hX hS
      rw [append_is hss] at h
      exact h.mono (fun e w' ⟨v', h1, h2, _, h3⟩ => ⟨v', h1, h2, h3⟩))
    have HSY : Hid (∀ (X : World) (a : Option Addr) (cap : Nat), RowF X (.slice a 1 cap) (D3 s).files → Calls Tryd.prog 9 #[.agg #[.int .i64 1048576, .slice a 1 cap, .int .i64 (-1), .int .i64 (-1), .bool false], .string { data := #[115, 101, 116] }] X fun e w' => ∃ v', e = .returned (.tuple #[.agg #[.int .i64 1048576, v', .int .i64 (-1), .int .i64 (-1), .bool false], .int .i64 0]) ∧ RowF w' v' (D4 s).files ∧ Below X.heap.size X w') := hide (fun X a cap hX => by
      have h := sync_any (D3 s) (.slice a 1 cap) { data := #[115, 101, 116] } X (fitD hss (by decide) (by decide)) hX
      rw [sync_is hss] at h
      exact h.mono (fun e w' ⟨v', h1, h2, _, h3⟩ => ⟨v', h1, h2, h3⟩))
    have HA5 := hide (fun (X : World) (a : Option Addr) (cap p : Nat) (hX : RowF X (.slice a 1 cap) (D4 s).files) (hS : RowS X (.slice (some ⟨p, 0, none⟩) 1 1) [more]) => append_any (D4 s) (.slice a 1 cap) { data := #[115, 101, 116] } (some ⟨p, 0, none⟩) 1 1 [more] X (fitD hss (by omega) (by omega)) hX hS)
    generalize appendR (D4 s) { data := #[115, 101, 116] } [more] = r5 at HA5 hc6
    obtain ⟨e5, z5⟩ := r5
    simp only at HA5 hc6
    have HC6 := hide (fun (X : World) (v : Value) (hf : FitAll e5) (hX : RowF X v e5.files) (hI : RowI X vk keep) => crash_any e5 v vk keep X hf hX hI)
    rw [hc6] at HC6
    simp only at HC6
    have HRD := hide (fun (X : World) (v : Value) (hf : FitAll c6) (hX : RowF X v c6.files) => read_any c6 v { data := #[115, 101, 116] } X hf hX)
    rw [ht] at HRD
    simp only at HRD
    have HHS := hide (fun (X : World) (v : Value) (hX : RowSp X v l) => nhas_any v l most n X hX)
    clear hc6 ht htc
    generalize hasS most n l = hb at HHS
    simp only [fsV, D4] at HA5
    simp only [fsV] at HC6 HRD
    have hst : ¬ (t.size : Int) < (s.size : Int) := by omega
    have hst2 : decide ((t.size : Int) < (s.size : Int)) = false := decide_eq_false hst
    have hst3 : decide (t.size < s.size) = false := decide_eq_false (by omega)
    have hbb : (hb == hb) = true := by simp
    have HL0 := HL
    have HT0 := HT
    have HK0 := HK
    go_enter Tryd.func3, Tryd.ntmps3
    go_wp2_with fail
    refine (unhide HBG _).mono ?_
    rintro e w1 ⟨rfl, b1⟩
    have BX := hide b1
    have XN := hide (RowSp.below (unhide HL) b1)
    clear HL
    have HL := XN
    clear XN
    have XN := hide ((unhide HT).below b1)
    clear HT
    have HT := XN
    clear XN
    have XN := hide ((unhide HK).below b1)
    clear HK
    have HK := XN
    clear XN
    clear b1 HBG
    go_wp2_with fail
    refine (unhide HW _ (unhide HL) (unhide HT)).mono ?_
    rintro e w2 ⟨rfl, b2⟩
    have XN := hide (RowSp.below (unhide HL) b2)
    clear HL
    have HL := XN
    clear XN
    have XN := hide ((unhide HT).below b2)
    clear HT
    have HT := XN
    clear XN
    have XN := hide ((unhide HK).below b2)
    clear HK
    have HK := XN
    clear XN
    have BN := hide (belows (unhide BX) b2)
    clear BX
    have BX := BN
    clear BN
    clear b2 HW
    go_wp2_with fail
    refine (unhide HMK _).mono ?_
    rintro e w3 ⟨v1, rfl, r1, b3⟩
    obtain ⟨a1, cap1, rfl⟩ := formF r1 (n := 0) rfl
    have XN := hide (RowSp.below (unhide HL) b3)
    clear HL
    have HL := XN
    clear XN
    have XN := hide ((unhide HT).below b3)
    clear HT
    have HT := XN
    clear XN
    have XN := hide ((unhide HK).below b3)
    clear HK
    have HK := XN
    clear XN
    have BN := hide (belows (unhide BX) b3)
    clear BX
    have BX := BN
    clear BN
    clear b3 HMK
    have bal : Below w3.heap.size w3 (w3.alloc (Obj.cells #[.int .i64 1048576, .slice a1 0 cap1, .int .i64 (-1), .int .i64 (-1), .bool false] 31)) := (Below.refl _ _).alloc (Nat.le_refl _) _
    have K := hide (Blk.new w3 31 #[.int .i64 1048576, .slice a1 0 cap1, .int .i64 (-1), .int .i64 (-1), .bool false])
    have R := hide (r1.below bal)
    have hpw : w.heap.size ≤ w3.heap.size := (unhide BX).size
    have XN := hide (RowSp.below (unhide HL) bal)
    clear HL
    have HL := XN
    clear XN
    have XN := hide ((unhide HT).below bal)
    clear HT
    have HT := XN
    clear XN
    have XN := hide ((unhide HK).below bal)
    clear HK
    have HK := XN
    clear XN
    have BN := hide (belows (unhide BX) bal)
    clear BX
    have BX := BN
    clear BN
    clear bal r1
    go_upto_region 7 with (fail)
    generalize (w3.alloc (Obj.cells #[.int .i64 1048576, .slice a1 0 cap1, .int .i64 (-1), .int .i64 (-1), .bool false] 31)) = Y at *
    have c0 := (unhide K).cell 0
    have c1 := (unhide K).cell 1
    have c2 := (unhide K).cell 2
    have c3 := (unhide K).cell 3
    have c4 := (unhide K).cell 4
    simp only [List.getElem?_toArray, List.getElem?_cons_succ, List.getElem?_cons_zero] at c0 c1 c2 c3 c4
    go_wp2_with fail
    clear c0 c1 c2 c3 c4
    refine (unhide HCR _ _ _ (unhide R)).mono ?_
    rintro e w4 ⟨v2, rfl, r2, bX⟩
    obtain ⟨a2, cap2, rfl⟩ := formF r2 (n := 1) rfl
    have k := (unhide K).below bX
    have XN := hide (RowSp.below (unhide HL) bX)
    clear HL
    have HL := XN
    clear XN
    have XN := hide ((unhide HT).below bX)
    clear HT
    have HT := XN
    clear XN
    have XN := hide ((unhide HK).below bX)
    clear HK
    have HK := XN
    clear XN
    have BN := hide (belows (unhide BX) bX)
    clear BX
    have BX := BN
    clear BN
    clear bX K R HCR
    have e0 := k.cell 0
    have e1 := k.cell 1
    have e2 := k.cell 2
    have e3 := k.cell 3
    have e4 := k.cell 4
    have f0 := k.frozen 0
    have f1 := k.frozen 1
    have f2 := k.frozen 2
    have f3 := k.frozen 3
    have f4 := k.frozen 4
    simp only [List.getElem?_toArray, List.getElem?_cons_succ, List.getElem?_cons_zero] at e0 e1 e2 e3 e4
    have R := hide (rowF5 r2 k (by intro i x; match i with | 0 | 1 | 2 | 3 | 4 => simp | i + 5 => simp) (.int .i64 1048576) (.slice a2 1 cap2) (.int .i64 (-1)) (.int .i64 (-1)) (.bool false))
    have K : Hid (Blk (((((w4.setCell ⟨w3.heap.size, 0, none⟩ (.int .i64 1048576)).setCell ⟨w3.heap.size, 1, none⟩ (.slice a2 1 cap2)).setCell ⟨w3.heap.size, 2, none⟩ (.int .i64 (-1))).setCell ⟨w3.heap.size, 3, none⟩ (.int .i64 (-1))).setCell ⟨w3.heap.size, 4, none⟩ (.bool false)) w3.heap.size 31 #[.int .i64 1048576, .slice a2 1 cap2, .int .i64 (-1), .int .i64 (-1), .bool false]) := hide (((((k.set 0 (.int .i64 1048576)).set 1 (.slice a2 1 cap2)).set 2 (.int .i64 (-1))).set 3 (.int .i64 (-1))).set 4 (.bool false))
    have XN := hide (RowSp.below (unhide HL0) (below5 (s := w3.heap.size) (unhide BX) (by omega) (.int .i64 1048576) (.slice a2 1 cap2) (.int .i64 (-1)) (.int .i64 (-1)) (.bool false)))
    clear HL
    have HL := XN
    clear XN
    have XN := hide ((unhide HT0).below (below5 (s := w3.heap.size) (unhide BX) (by omega) (.int .i64 1048576) (.slice a2 1 cap2) (.int .i64 (-1)) (.int .i64 (-1)) (.bool false)))
    clear HT
    have HT := XN
    clear XN
    have XN := hide ((unhide HK0).below (below5 (s := w3.heap.size) (unhide BX) (by omega) (.int .i64 1048576) (.slice a2 1 cap2) (.int .i64 (-1)) (.int .i64 (-1)) (.bool false)))
    clear HK
    have HK := XN
    clear XN
    have BN := hide (below5 (s := w3.heap.size) (unhide BX) (by omega) (.int .i64 1048576) (.slice a2 1 cap2) (.int .i64 (-1)) (.int .i64 (-1)) (.bool false))
    clear BX
    have BX := BN
    clear BN
    clear k r2
    go_upto_region 8 with (fail)
    generalize (((((w4.setCell ⟨w3.heap.size, 0, none⟩ (.int .i64 1048576)).setCell ⟨w3.heap.size, 1, none⟩ (.slice a2 1 cap2)).setCell ⟨w3.heap.size, 2, none⟩ (.int .i64 (-1))).setCell ⟨w3.heap.size, 3, none⟩ (.int .i64 (-1))).setCell ⟨w3.heap.size, 4, none⟩ (.bool false)) = Y at *
    clear e0 e1 e2 e3 e4 f0 f1 f2 f3 f4
    have c0 := (unhide K).cell 0
    have c1 := (unhide K).cell 1
    have c2 := (unhide K).cell 2
    have c3 := (unhide K).cell 3
    have c4 := (unhide K).cell 4
    simp only [List.getElem?_toArray, List.getElem?_cons_succ, List.getElem?_cons_zero] at c0 c1 c2 c3 c4
    have bal : Below Y.heap.size Y (Y.alloc (Obj.cells #[.string s] 9)) := (Below.refl _ _).alloc (Nat.le_refl _) _
    have SY := hide (rowS_new1 Y s (by omega))
    have RY := hide ((unhide R).below bal)
    have BAL := hide bal
    clear bal
    go_wp2_with fail
    clear c0 c1 c2 c3 c4
    refine (unhide HAP _ _ _ _ (unhide RY) (unhide SY)).mono ?_
    rintro e w5 ⟨v3, rfl, r3, b3⟩
    have bX := belows (unhide BAL) b3
    clear BAL SY RY b3
    obtain ⟨a3, cap3, rfl⟩ := formF r3 (n := 1) rfl
    have k := (unhide K).below bX
    have XN := hide (RowSp.below (unhide HL) bX)
    clear HL
    have HL := XN
    clear XN
    have XN := hide ((unhide HT).below bX)
    clear HT
    have HT := XN
    clear XN
    have XN := hide ((unhide HK).below bX)
    clear HK
    have HK := XN
    clear XN
    have BN := hide (belows (unhide BX) bX)
    clear BX
    have BX := BN
    clear BN
    clear bX K R HAP
    have e0 := k.cell 0
    have e1 := k.cell 1
    have e2 := k.cell 2
    have e3 := k.cell 3
    have e4 := k.cell 4
    have f0 := k.frozen 0
    have f1 := k.frozen 1
    have f2 := k.frozen 2
    have f3 := k.frozen 3
    have f4 := k.frozen 4
    simp only [List.getElem?_toArray, List.getElem?_cons_succ, List.getElem?_cons_zero] at e0 e1 e2 e3 e4
    have R := hide (rowF5 r3 k (by intro i x; match i with | 0 | 1 | 2 | 3 | 4 => simp | i + 5 => simp) (.int .i64 1048576) (.slice a3 1 cap3) (.int .i64 (-1)) (.int .i64 (-1)) (.bool false))
    have K : Hid (Blk (((((w5.setCell ⟨w3.heap.size, 0, none⟩ (.int .i64 1048576)).setCell ⟨w3.heap.size, 1, none⟩ (.slice a3 1 cap3)).setCell ⟨w3.heap.size, 2, none⟩ (.int .i64 (-1))).setCell ⟨w3.heap.size, 3, none⟩ (.int .i64 (-1))).setCell ⟨w3.heap.size, 4, none⟩ (.bool false)) w3.heap.size 31 #[.int .i64 1048576, .slice a3 1 cap3, .int .i64 (-1), .int .i64 (-1), .bool false]) := hide (((((k.set 0 (.int .i64 1048576)).set 1 (.slice a3 1 cap3)).set 2 (.int .i64 (-1))).set 3 (.int .i64 (-1))).set 4 (.bool false))
    have XN := hide (RowSp.below (unhide HL0) (below5 (s := w3.heap.size) (unhide BX) (by omega) (.int .i64 1048576) (.slice a3 1 cap3) (.int .i64 (-1)) (.int .i64 (-1)) (.bool false)))
    clear HL
    have HL := XN
    clear XN
    have XN := hide ((unhide HT0).below (below5 (s := w3.heap.size) (unhide BX) (by omega) (.int .i64 1048576) (.slice a3 1 cap3) (.int .i64 (-1)) (.int .i64 (-1)) (.bool false)))
    clear HT
    have HT := XN
    clear XN
    have XN := hide ((unhide HK0).below (below5 (s := w3.heap.size) (unhide BX) (by omega) (.int .i64 1048576) (.slice a3 1 cap3) (.int .i64 (-1)) (.int .i64 (-1)) (.bool false)))
    clear HK
    have HK := XN
    clear XN
    have BN := hide (below5 (s := w3.heap.size) (unhide BX) (by omega) (.int .i64 1048576) (.slice a3 1 cap3) (.int .i64 (-1)) (.int .i64 (-1)) (.bool false))
    clear BX
    have BX := BN
    clear BN
    clear k r3
    go_upto_region 9 with (fail)
    generalize (((((w5.setCell ⟨w3.heap.size, 0, none⟩ (.int .i64 1048576)).setCell ⟨w3.heap.size, 1, none⟩ (.slice a3 1 cap3)).setCell ⟨w3.heap.size, 2, none⟩ (.int .i64 (-1))).setCell ⟨w3.heap.size, 3, none⟩ (.int .i64 (-1))).setCell ⟨w3.heap.size, 4, none⟩ (.bool false)) = Y at *
    clear e0 e1 e2 e3 e4 f0 f1 f2 f3 f4
    have c0 := (unhide K).cell 0
    have c1 := (unhide K).cell 1
    have c2 := (unhide K).cell 2
    have c3 := (unhide K).cell 3
    have c4 := (unhide K).cell 4
    simp only [List.getElem?_toArray, List.getElem?_cons_succ, List.getElem?_cons_zero] at c0 c1 c2 c3 c4
    go_wp2_with fail
    clear c0 c1 c2 c3 c4
    refine (unhide HSY _ _ _ (unhide R)).mono ?_
    rintro e w6 ⟨v4, rfl, r4, bX⟩
    obtain ⟨a4, cap4, rfl⟩ := formF r4 (n := 1) rfl
    have k := (unhide K).below bX
    have XN := hide (RowSp.below (unhide HL) bX)
    clear HL
    have HL := XN
    clear XN
    have XN := hide ((unhide HT).below bX)
    clear HT
    have HT := XN
    clear XN
    have XN := hide ((unhide HK).below bX)
    clear HK
    have HK := XN
    clear XN
    have BN := hide (belows (unhide BX) bX)
    clear BX
    have BX := BN
    clear BN
    clear bX K R HSY
    have e0 := k.cell 0
    have e1 := k.cell 1
    have e2 := k.cell 2
    have e3 := k.cell 3
    have e4 := k.cell 4
    have f0 := k.frozen 0
    have f1 := k.frozen 1
    have f2 := k.frozen 2
    have f3 := k.frozen 3
    have f4 := k.frozen 4
    simp only [List.getElem?_toArray, List.getElem?_cons_succ, List.getElem?_cons_zero] at e0 e1 e2 e3 e4
    have R := hide (rowF5 r4 k (by intro i x; match i with | 0 | 1 | 2 | 3 | 4 => simp | i + 5 => simp) (.int .i64 1048576) (.slice a4 1 cap4) (.int .i64 (-1)) (.int .i64 (-1)) (.bool false))
    have K : Hid (Blk (((((w6.setCell ⟨w3.heap.size, 0, none⟩ (.int .i64 1048576)).setCell ⟨w3.heap.size, 1, none⟩ (.slice a4 1 cap4)).setCell ⟨w3.heap.size, 2, none⟩ (.int .i64 (-1))).setCell ⟨w3.heap.size, 3, none⟩ (.int .i64 (-1))).setCell ⟨w3.heap.size, 4, none⟩ (.bool false)) w3.heap.size 31 #[.int .i64 1048576, .slice a4 1 cap4, .int .i64 (-1), .int .i64 (-1), .bool false]) := hide (((((k.set 0 (.int .i64 1048576)).set 1 (.slice a4 1 cap4)).set 2 (.int .i64 (-1))).set 3 (.int .i64 (-1))).set 4 (.bool false))
    have XN := hide (RowSp.below (unhide HL0) (below5 (s := w3.heap.size) (unhide BX) (by omega) (.int .i64 1048576) (.slice a4 1 cap4) (.int .i64 (-1)) (.int .i64 (-1)) (.bool false)))
    clear HL
    have HL := XN
    clear XN
    have XN := hide ((unhide HT0).below (below5 (s := w3.heap.size) (unhide BX) (by omega) (.int .i64 1048576) (.slice a4 1 cap4) (.int .i64 (-1)) (.int .i64 (-1)) (.bool false)))
    clear HT
    have HT := XN
    clear XN
    have XN := hide ((unhide HK0).below (below5 (s := w3.heap.size) (unhide BX) (by omega) (.int .i64 1048576) (.slice a4 1 cap4) (.int .i64 (-1)) (.int .i64 (-1)) (.bool false)))
    clear HK
    have HK := XN
    clear XN
    have BN := hide (below5 (s := w3.heap.size) (unhide BX) (by omega) (.int .i64 1048576) (.slice a4 1 cap4) (.int .i64 (-1)) (.int .i64 (-1)) (.bool false))
    clear BX
    have BX := BN
    clear BN
    clear k r4
    go_upto_region 10 with (fail)
    generalize (((((w6.setCell ⟨w3.heap.size, 0, none⟩ (.int .i64 1048576)).setCell ⟨w3.heap.size, 1, none⟩ (.slice a4 1 cap4)).setCell ⟨w3.heap.size, 2, none⟩ (.int .i64 (-1))).setCell ⟨w3.heap.size, 3, none⟩ (.int .i64 (-1))).setCell ⟨w3.heap.size, 4, none⟩ (.bool false)) = Y at *
    clear e0 e1 e2 e3 e4 f0 f1 f2 f3 f4
    have c0 := (unhide K).cell 0
    have c1 := (unhide K).cell 1
    have c2 := (unhide K).cell 2
    have c3 := (unhide K).cell 3
    have c4 := (unhide K).cell 4
    simp only [List.getElem?_toArray, List.getElem?_cons_succ, List.getElem?_cons_zero] at c0 c1 c2 c3 c4
    have bal : Below Y.heap.size Y (Y.alloc (Obj.cells #[.string more] 9)) := (Below.refl _ _).alloc (Nat.le_refl _) _
    have SY := hide (rowS_new1 Y more (by omega))
    have RY := hide ((unhide R).below bal)
    have BAL := hide bal
    clear bal
    go_wp2_with fail
    clear c0 c1 c2 c3 c4
    refine (unhide HA5 _ _ _ _ (unhide RY) (unhide SY)).mono ?_
    rintro e w7 ⟨v5, rfl, r5, fit5, b5⟩
    have bX := belows (unhide BAL) b5
    clear BAL SY RY b5 HA5
    obtain ⟨a5, cap5, hv5, _⟩ := id r5
    subst hv5
    have XN := hide (RowSp.below (unhide HL) bX)
    clear HL
    have HL := XN
    clear XN
    have XN := hide ((unhide HT).below bX)
    clear HT
    have HT := XN
    clear XN
    have XN := hide ((unhide HK).below bX)
    clear HK
    have HK := XN
    clear XN
    have BN := hide (belows (unhide BX) bX)
    clear BX
    have BX := BN
    clear BN
    clear bX K R
    have bal : Below w7.heap.size w7 (w7.alloc (Obj.cells #[.int .i64 e5.room, .slice a5 e5.files.length cap5, .int .i64 e5.fuse, .int .i64 e5.fault, .bool e5.down] 31)) := (Below.refl _ _).alloc (Nat.le_refl _) _
    have K := hide (Blk.new w7 31 #[.int .i64 e5.room, .slice a5 e5.files.length cap5, .int .i64 e5.fuse, .int .i64 e5.fault, .bool e5.down])
    have R := hide (r5.below bal)
    have XN := hide (RowSp.below (unhide HL) bal)
    clear HL
    have HL := XN
    clear XN
    have XN := hide ((unhide HT).below bal)
    clear HT
    have HT := XN
    clear XN
    have XN := hide ((unhide HK).below bal)
    clear HK
    have HK := XN
    clear XN
    have BN := hide (belows (unhide BX) bal)
    clear BX
    have BX := BN
    clear BN
    clear bal r5
    go_upto_region 13 with (fail)
    generalize (w7.alloc (Obj.cells #[.int .i64 e5.room, .slice a5 e5.files.length cap5, .int .i64 e5.fuse, .int .i64 e5.fault, .bool e5.down] 31)) = Y at *
    have c0 := (unhide K).cell 0
    have c1 := (unhide K).cell 1
    have c2 := (unhide K).cell 2
    have c3 := (unhide K).cell 3
    have c4 := (unhide K).cell 4
    simp only [List.getElem?_toArray, List.getElem?_cons_succ, List.getElem?_cons_zero] at c0 c1 c2 c3 c4
    go_wp2_with fail
    clear c0 c1 c2 c3 c4
    refine (unhide HC6 _ _ fit5 (unhide R) (unhide HK)).mono ?_
    rintro e w8 ⟨v6, rfl, r6, fit6, bX⟩
    obtain ⟨a6, cap6, hv6, _⟩ := id r6
    subst hv6
    have XN := hide (RowSp.below (unhide HL) bX)
    clear HL
    have HL := XN
    clear XN
    have XN := hide ((unhide HT).below bX)
    clear HT
    have HT := XN
    clear XN
    have XN := hide ((unhide HK).below bX)
    clear HK
    have HK := XN
    clear XN
    have BN := hide (belows (unhide BX) bX)
    clear BX
    have BX := BN
    clear BN
    clear bX K R HC6
    have bal : Below w8.heap.size w8 (w8.alloc (Obj.cells #[.int .i64 c6.room, .slice a6 c6.files.length cap6, .int .i64 c6.fuse, .int .i64 c6.fault, .bool c6.down] 31)) := (Below.refl _ _).alloc (Nat.le_refl _) _
    have K := hide (Blk.new w8 31 #[.int .i64 c6.room, .slice a6 c6.files.length cap6, .int .i64 c6.fuse, .int .i64 c6.fault, .bool c6.down])
    have R := hide (r6.below bal)
    have XN := hide (RowSp.below (unhide HL) bal)
    clear HL
    have HL := XN
    clear XN
    have XN := hide ((unhide HT).below bal)
    clear HT
    have HT := XN
    clear XN
    have XN := hide ((unhide HK).below bal)
    clear HK
    have HK := XN
    clear XN
    have BN := hide (belows (unhide BX) bal)
    clear BX
    have BX := BN
    clear BN
    clear bal r6
    go_upto_region 14 with (fail)
    generalize (w8.alloc (Obj.cells #[.int .i64 c6.room, .slice a6 c6.files.length cap6, .int .i64 c6.fuse, .int .i64 c6.fault, .bool c6.down] 31)) = Y at *
    have c0 := (unhide K).cell 0
    have c1 := (unhide K).cell 1
    have c2 := (unhide K).cell 2
    have c3 := (unhide K).cell 3
    have c4 := (unhide K).cell 4
    simp only [List.getElem?_toArray, List.getElem?_cons_succ, List.getElem?_cons_zero] at c0 c1 c2 c3 c4
    go_wp2_with fail
    clear c0 c1 c2 c3 c4
    refine (unhide HRD _ _ fit6 (unhide R)).mono ?_
    rintro e w9 ⟨rfl, bX⟩
    have XN := hide (RowSp.below (unhide HL) bX)
    clear HL
    have HL := XN
    clear XN
    have XN := hide ((unhide HT).below bX)
    clear HT
    have HT := XN
    clear XN
    have XN := hide ((unhide HK).below bX)
    clear HK
    have HK := XN
    clear XN
    have BN := hide (belows (unhide BX) bX)
    clear BX
    have BX := BN
    clear BN
    clear bX K R HRD
    go_wp2_with fail
    refine (unhide HPA _ (unhide HT)).mono ?_
    rintro e w10 ⟨vm, rfl, om, bX⟩
    have hln := unhide HLN
    have RM := hide (rowG_of_own (Fit := FitS) cellsSn_len om (by omega) (unhide HFT))
    have XN := hide (RowSp.below (unhide HL) bX)
    clear HL
    have HL := XN
    clear XN
    have XN := hide ((unhide HT).below bX)
    clear HT
    have HT := XN
    clear XN
    have XN := hide ((unhide HK).below bX)
    clear HK
    have HK := XN
    clear XN
    have BN := hide (belows (unhide BX) bX)
    clear BX
    have BX := BN
    clear BN
    clear bX om HPA
    go_wp2_with fail
    refine (unhide HHS _ _ (unhide RM)).mono ?_
    rintro e w11 ⟨rfl, bX⟩
    have XN := hide (RowSp.below (unhide HL) bX)
    clear HL
    have HL := XN
    clear XN
    have XN := hide ((unhide HT).below bX)
    clear HT
    have HT := XN
    clear XN
    have XN := hide ((unhide HK).below bX)
    clear HK
    have HK := XN
    clear XN
    have BN := hide (belows (unhide BX) bX)
    clear BX
    have BX := BN
    clear BN
    clear bX
    go_wp2_with fail
    refine (unhide HHS _ _ (unhide HL)).mono ?_
    rintro e w12 ⟨rfl, bX⟩
    have XN := hide (RowSp.below (unhide HL) bX)
    clear HL
    have HL := XN
    clear XN
    have XN := hide ((unhide HT).below bX)
    clear HT
    have HT := XN
    clear XN
    have XN := hide ((unhide HK).below bX)
    clear HK
    have HK := XN
    clear XN
    have BN := hide (belows (unhide BX) bX)
    clear BX
    have BX := BN
    clear BN
    clear bX
    go_wp2
    go_ret
    exact ⟨by simp, unhide BX⟩
end Go.Proofs.YtpfmhlldkikbjaaDoor
