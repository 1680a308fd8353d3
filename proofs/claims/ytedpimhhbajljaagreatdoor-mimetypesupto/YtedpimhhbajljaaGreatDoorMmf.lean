/-
  What mime.Type and mime.Param do, over this seat's program.
-/
import Derived.Test.YtedpimhhbajljaaGreatDoorMme
set_option linter.unusedVariables false
set_option linter.unusedSimpArgs false
namespace Go.Proofs.YtedpimhhbajljaaGreatDoor
open Go.RowKit Go.Proofs.Hed

def kndL (l : List UInt8) : List UInt8 := match cutAt 59 l with
  | none => l
  | some (a, _) => a
def behL (l : List UInt8) : List UInt8 := l.drop (kndL l).length
def plainT : List UInt8 := [116, 101, 120, 116, 47, 112, 108, 97, 105, 110]
/-- A value's type, and its parameters. -/
def typK (l : List UInt8) : List UInt8 := if isTypL (trimL (kndL l)) = true then smL (trimL (kndL l)) else plainT
def typF (l : List UInt8) : List (List UInt8 × List UInt8) := if isTypL (trimL (kndL l)) = true then parsL (behL l) else []
theorem kndL_len (l : List UInt8) : (kndL l).length ≤ l.length := by
  unfold kndL
  have h := index_cut 59 l
  cases hc : cutAt 59 l with
  | none => exact Nat.le_refl _
  | some p =>
    obtain ⟨a, b⟩ := p
    rw [hc] at h
    rw [h.2]
    simp
theorem own_monoH {w : World} {base base' : Nat} {e : TypeId} {size : Nat} {v : Value} {n : Nat} {xs : List Value} (h : w.ownsRow base e size v n xs) (hb : base' ≤ base) : w.ownsRow base' e size v n xs := by
  refine ⟨h.1, ?_⟩
  rcases h.2 with h | ⟨g, cap, cur, hv, hg, rest⟩
  · exact Or.inl h
  · exact Or.inr ⟨g, cap, cur, hv, Nat.le_trans hb hg, rest⟩
theorem rowF_nilH (w : World) : RowF w (.slice none 0 0) [] := ⟨none, 0, rfl, by simp, by simp, .inl rfl⟩

set_option maxHeartbeats 2000000 in
set_option maxRecDepth 100000 in
theorem type_any (s : ByteArray) (w : World) (hs : s.size ≤ 4194304) :
    Calls Tryz.prog 4 #[.string s] w fun e w' => ∃ v, e = .returned (.tuple #[.string (bts (typK s.data.toList)), v]) ∧ (RowF w' v ((typF s.data.toList).map fldP) ∧ w'.ownsRow w.heap.size 40 2 v ((typF s.data.toList).map fldP).length (flatF ((typF s.data.toList).map fldP))) ∧ Below w.heap.size w w' := by
  have hsl := sizeL s
  have HC : Hid (∃ y b, Calls Tryz.prog 10 #[.string s, .string ⟨#[59]⟩] w fun e w' => e = .returned (.tuple #[.string (bts (kndL s.data.toList)), .string y, .bool b]) ∧ ∃ q, w' = w.drewN q) := hide (by
    have h := cut1_any 59 s w (by omega)
    unfold kndL
    cases hc : cutAt 59 s.data.toList with
    | none => rw [hc] at h; refine ⟨⟨#[]⟩, false, ?_⟩; simp only [bts_toList]; exact h
    | some p => obtain ⟨a, b⟩ := p; rw [hc] at h; exact ⟨bts b, true, h⟩)
  obtain ⟨y, b, hC⟩ := unhide HC
  have HC2 := hide hC
  clear HC hC
  have hkl := kndL_len s.data.toList
  unfold typK typF behL
  generalize kndL s.data.toList = kl at HC2 hkl ⊢
  have hzk : (bts kl).size = kl.length := size_bts _
  have htd : (s.extract kl.length s.size).data.toList = s.data.toList.drop kl.length := toList_from s kl.length
  have HTR := hide (fun W => trim_any (bts kl) W (by omega))
  rw [toList_bts] at HTR
  have htl := trimL_len kl
  generalize trimL kl = tk at HTR htl ⊢
  have hzt : (bts tk).size = tk.length := size_bts _
  have HIT := hide (fun W => isType_any (bts tk) W (by omega))
  rw [toList_bts] at HIT
  have HSM := hide (fun W => smallM_any (bts tk) W (by omega))
  rw [toList_bts] at HSM
  have HRP := hide (fun W => readParams_any (s.extract kl.length s.size) W (by rw [← sizeL, htd, List.length_drop]; omega))
  rw [htd] at HRP
  have HCL := hide (fun W => cloneS_any ⟨#[116, 101, 120, 116, 47, 112, 108, 97, 105, 110]⟩ W (by decide))
  rw [← hzk] at HRP hkl
  clear htd hzt htl hzk
  rw [hsl] at hkl
  have hk2 : ((bts kl).size : Int) ≤ (s.size : Int) := by omega
  rw [size_bts] at HRP hkl hk2
  rw [← size_bts kl] at HRP hkl hk2
  generalize hkb : bts kl = kb at HC2 HTR hk2 hkl HRP
  have HRP2 : Hid (∀ W, Calls Tryz.prog 15 #[.string (s.extract kb.size s.size)] W fun e w' => ∃ v, e = .returned v ∧ (RowF w' v ((parsL (s.data.toList.drop kl.length)).map fldP) ∧ w'.ownsRow W.heap.size 40 2 v ((parsL (s.data.toList.drop kl.length)).map fldP).length (flatF ((parsL (s.data.toList.drop kl.length)).map fldP))) ∧ Below W.heap.size W w') := hide (fun W => by have h := unhide HRP W; rw [show kl.length = kb.size by rw [← hkb, size_bts]]; exact h)
  clear HRP hkb
  have HRP := HRP2
  clear HRP2
  generalize bts tk = tb at HTR HIT HSM
  cases hit : isTypL tk with
  | false =>
    rw [hit] at HIT
    simp only [Bool.false_eq_true, if_false]
    clear hit HSM HRP
    go_enter Tryz.func4, Tryz.ntmps4
    go_wp2_with fail
    refine (unhide HC2).mono ?_
    rintro e w1 ⟨rfl, q, rfl⟩
    have B1 := hide (show Below w.heap.size w (w.drewN q) from ⟨rfl, rfl, rfl, Nat.le_refl _, fun _ _ => rfl⟩)
    generalize w.drewN q = u1 at B1 ⊢
    go_wp2_with fail
    refine (unhide HTR _).mono ?_
    rintro e w2 ⟨rfl, b2⟩
    have B2 := hide (belows' (unhide B1) b2)
    clear b2 B1
    go_wp2_with fail
    refine (unhide HIT _).mono ?_
    rintro e w3 ⟨rfl, q3, rfl⟩
    have B3 := hide (belows' (unhide B2) (show Below w2.heap.size w2 (w2.drewN q3) from ⟨rfl, rfl, rfl, Nat.le_refl _, fun _ _ => rfl⟩))
    generalize w2.drewN q3 = u3 at B3 ⊢
    clear B2
    go_wp2_with fail
    refine (unhide HCL _).mono ?_
    rintro e w4 ⟨rfl, b4⟩
    have B4 := hide (belows' (unhide B3) b4)
    clear b4 B3
    go_wp2
    go_ret2
    exact ⟨_, rfl, ⟨rowF_nilH _, ⟨rfl, Or.inl ⟨rfl, rfl⟩⟩⟩, unhide B4⟩
  | true =>
    rw [hit] at HIT
    simp only [if_true]
    clear hit HCL
    go_enter Tryz.func4, Tryz.ntmps4
    go_wp2_with fail
    refine (unhide HC2).mono ?_
    rintro e w1 ⟨rfl, q, rfl⟩
    have B1 := hide (show Below w.heap.size w (w.drewN q) from ⟨rfl, rfl, rfl, Nat.le_refl _, fun _ _ => rfl⟩)
    generalize w.drewN q = u1 at B1 ⊢
    go_wp2_with fail
    refine (unhide HTR _).mono ?_
    rintro e w2 ⟨rfl, b2⟩
    have B2 := hide (belows' (unhide B1) b2)
    clear b2 B1
    go_wp2_with fail
    refine (unhide HIT _).mono ?_
    rintro e w3 ⟨rfl, q3, rfl⟩
    have B3 := hide (belows' (unhide B2) (show Below w2.heap.size w2 (w2.drewN q3) from ⟨rfl, rfl, rfl, Nat.le_refl _, fun _ _ => rfl⟩))
    generalize w2.drewN q3 = u3 at B3 ⊢
    clear B2
    go_wp2_with fail
    refine (unhide HSM _).mono ?_
    rintro e w4 ⟨rfl, b4⟩
    have B4 := hide (belows' (unhide B3) b4)
    clear b4 B3
    go_wp2_with fail
    refine (unhide HRP _).mono ?_
    rintro e w5 ⟨v5, rfl, r5, b5⟩
    have B5 := hide (belows' (unhide B4) b5)
    have hB4 := (unhide B4).size
    have O5 := hide (own_monoH r5.2 hB4)
    have R5 := hide r5
    clear b5 B4 r5
    go_wp2
    go_ret2
    exact ⟨_, rfl, ⟨(unhide R5).1, unhide O5⟩, unhide B5⟩

theorem findV_form (nm : ByteArray) : ∀ l : List Fld, ∃ (a : ByteArray) (c : Int), findV nm l = .tuple #[.string a, .int .i64 c]
  | [] => ⟨_, _, rfl⟩
  | f :: r => by
    unfold findV
    split
    · exact ⟨_, _, rfl⟩
    · exact findV_form nm r
set_option maxHeartbeats 400000 in
theorem param_any (v : Value) (l : List Fld) (nm : ByteArray) (w : World) (h : RowF w v l) (hn : nm.size ≤ 16777216) :
    Calls Tryz.prog 6 #[v, .string nm] w fun e w' => e = .returned (findV nm l) ∧ Below w.heap.size w w' := by
  have HF := hide (find_any v l nm w h hn)
  obtain ⟨a, c, hv⟩ := findV_form nm l
  rw [hv] at HF ⊢
  clear hv
  obtain ⟨va, vc, rfl, _⟩ := h
  go_enter Tryz.func6, Tryz.ntmps6
  go_wp2_with fail
  refine (unhide HF).mono ?_
  rintro e w1 ⟨rfl, b1⟩
  have B1 := hide b1
  clear b1
  go_wp2
  go_ret2
  exact ⟨rfl, unhide B1⟩
end Go.Proofs.YtedpimhhbajljaaGreatDoor
