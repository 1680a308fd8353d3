/-
  What the read of a part of mime does, over this seat's program.
-/
import Derived.Test.YtedpimhhbajljaaGreatDoorMmi
import Derived.Test.YtedpimhhbajljaaGreatDoorHpo
import Derived.Deep.Cut
set_option linter.unusedVariables false
set_option linter.unusedSimpArgs false
namespace Go.Proofs.YtedpimhhbajljaaGreatDoor
open Go.RowKit Go.Proofs.Hed

theorem parseM_bulk : ∀ (f : Nat) (s : List UInt8), ((parseF f s).1.map (fun p => p.1.length + p.2.length)).sum ≤ s.length
  | 0, _ => by simp [parseF]
  | f + 1, s => by
    have h1 := lineN_le s
    have h0 := lineOf_len s
    simp only [parseF]
    split
    · simp
    · split
      · simp
      · rename_i n v hc
        split
        · have h2 := parseM_bulk f (s.drop (lineN s + (contL (s.drop (lineN s))).2))
          have h3 := contL_le (s.drop (lineN s))
          have h4 := contL_len (s.drop (lineN s))
          have h5 := colon_len hc
          have h6 := trimL_len (v ++ (contL (s.drop (lineN s))).1)
          rw [List.length_append] at h6
          rw [List.length_drop] at h2 h3
          simp only [List.map_cons, List.sum_cons]
          omega
        · simp
theorem sum_mem (g : List UInt8 × List UInt8 → Nat) : ∀ (L : List (List UInt8 × List UInt8)) (p : List UInt8 × List UInt8), p ∈ L → g p ≤ (L.map g).sum
  | [], p, h => by cases h
  | q :: L, p, h => by
    simp only [List.map_cons, List.sum_cons]
    rcases List.mem_cons.1 h with rfl | h
    · omega
    · have := sum_mem g L p h; omega
/-- What head.Find tells, as two values. -/
def findR (nm : ByteArray) : List Fld → ByteArray × Nat
  | [] => ({ data := #[] }, 3)
  | f :: r => if called nm f then (f.2, 0) else findR nm r
theorem findV_eq (nm : ByteArray) : ∀ l : List Fld, findV nm l = .tuple #[.string (findR nm l).1, .int .i64 ((findR nm l).2 : Int)]
  | [] => rfl
  | f :: r => by
    unfold findV findR
    split
    · rfl
    · exact findV_eq nm r
theorem findR_size {nm : ByteArray} {k : Nat} : ∀ {l : List Fld}, (∀ f ∈ l, f.2.size ≤ k) → (findR nm l).1.size ≤ k
  | [], _ => Nat.zero_le _
  | f :: r, h => by
    unfold findR
    split
    · exact h f (by simp)
    · exact findR_size (fun g hg => h g (by simp [hg]))
/-- The fields of a text. -/
def fldsL (l : List UInt8) : List Fld := ((parseL l).1.take 1024).map fldP
theorem fld_back (f : Fld) : fldP (lst f) = f := by
  unfold fldP lst
  simp only [bts_toList]
theorem flds_is {F : List Fld} {l : List UInt8} (h : F.map lst = (parseL l).1.take 1024) : F = fldsL l := by
  unfold fldsL
  rw [← h, List.map_map]
  have : F.map (fldP ∘ lst) = F.map id := List.map_congr_left (fun f _ => fld_back f)
  rw [this, List.map_id]
theorem flds_size (l : List UInt8) : ∀ f ∈ fldsL l, f.2.size ≤ l.length := by
  intro f hf
  obtain ⟨p, hp, rfl⟩ := List.mem_map.1 hf
  have h1 := sum_mem (fun p => p.1.length + p.2.length) (parseL l).1 p (List.mem_of_mem_take hp)
  have h2 := parseM_bulk (l.length + 1) l
  unfold parseL at h1
  show (bts p.2).size ≤ _
  rw [size_bts]
  omega
theorem pars_size (l : List UInt8) : ∀ (f : Nat) (l : List UInt8), ∀ p ∈ parsF f l, p.2.length ≤ l.length
  | 0, l, p, h => by cases h
  | f + 1, l, p, h => by
    unfold parsF at h
    split at h
    · cases hp : parM l.tail with
      | none => rw [hp] at h; cases h
      | some q =>
        obtain ⟨⟨n, v⟩, r⟩ := q
        rw [hp] at h
        have h1 := par_len hp
        rw [List.length_tail] at h1
        rcases List.mem_cons.1 h with rfl | h
        · show v.length ≤ _; omega
        · have := pars_size l f r p h; omega
    · cases h
/-- A part's value of a field, its type, its parameters, its charset, its coding, its boundary, its body. -/
def rdV (l : List UInt8) : ByteArray := (findR { data := #[67, 111, 110, 116, 101, 110, 116, 45, 84, 121, 112, 101] } (fldsL l)).1
def rdP (l : List UInt8) : List Fld := (typF (rdV l).data.toList).map fldP
def rdT (l : List UInt8) : ByteArray := bts (typK (rdV l).data.toList)
def orS (pl : ByteArray) (r : ByteArray × Nat) : ByteArray := bts (smL (if r.2 = 0 then r.1 else pl).data.toList)
def rdC (l : List UInt8) : ByteArray := orS { data := #[117, 115, 45, 97, 115, 99, 105, 105] } (findR { data := #[99, 104, 97, 114, 115, 101, 116] } (rdP l))
def rdD (l : List UInt8) : ByteArray := orS { data := #[55, 98, 105, 116] } (findR { data := #[67, 111, 110, 116, 101, 110, 116, 45, 84, 114, 97, 110, 115, 102, 101, 114, 45, 69, 110, 99, 111, 100, 105, 110, 103] } (fldsL l))
def rdB (l : List UInt8) : ByteArray := (findR { data := #[98, 111, 117, 110, 100, 97, 114, 121] } (rdP l)).1
def rdY (s : ByteArray) : ByteArray := s.extract (parseL s.data.toList).2 s.size
def rdK (lv : Int) (s : ByteArray) : List (Nat × Nat) := kidsP lv (rdT s.data.toList).data.toList (rdY s).data.toList (rdB s.data.toList).data.toList
theorem rdV_size (l : List UInt8) : (rdV l).size ≤ l.length := findR_size (flds_size l)
theorem typF_size (l : List UInt8) : ∀ f ∈ (typF l).map fldP, f.2.size ≤ l.length := by
  intro f hf
  obtain ⟨p, hp, rfl⟩ := List.mem_map.1 hf
  show (bts p.2).size ≤ _
  rw [size_bts]
  unfold typF at hp
  split at hp
  · have := pars_size [] _ _ p hp
    have h2 : (behL l).length ≤ l.length := by unfold behL; rw [List.length_drop]; omega
    omega
  · cases hp
theorem own_far {w : World} {C P i n k : Nat} {e t : TypeId} {v u : Value} {xs : List Value} {cs : Array Value} (h : w.ownsRow C e k v n xs) (hp : Blk w P t cs) (hP : P < C) : (w.setCell ⟨P, i, none⟩ u).ownsRow C e k v n xs := by
  exact h.kept (row := some P) ⟨rfl, rfl, rfl, by simp, fun k hk hn => Below.heap_setCell _ _ _ _ (fun e => hn (by rw [e]))⟩ (Or.inr (fun e => by have := (h.lt P e).1; omega))
theorem belowP {P : Nat} {w a c : World} (h : Below P w a) (k : Below a.heap.size a c) (hP : P ≤ a.heap.size) : Below P w c := h.trans (k.mono hP)
set_option maxHeartbeats 8000000 in
set_option maxRecDepth 100000 in
theorem readM_any (P : Nat) (lv : Int) (x1 x2 x3 x4 s : ByteArray) (w : World) (hp : Blk w P 77 #[.int .i64 lv, .string x1, .string x2, .string x3, .string x4, .string s]) (hs : s.size ≤ 4194304) :
    Calls Tryz.prog 47 #[.pointer (some ⟨P, 0, none⟩)] w fun e w' => ∃ v, e = .returned v ∧ w'.ownsRow w.heap.size 9 1 v (rdK lv s).length ((rdK lv s).map (cutV (rdY s))) ∧ (rdK lv s).length ≤ 257 ∧ Blk w' P 77 #[.int .i64 lv, .string (rdT s.data.toList), .string (rdC s.data.toList), .string (rdD s.data.toList), .string (if (rdK lv s).length = 0 then rdY s else x4), .string s] ∧ Below P w w' := by
  have hsl := sizeL s
  have hPw := hp.lt
  have HPA := hide (parse_own s w (by omega))
  have hat := parseL_le s.data.toList
  rw [hsl] at hat
  have hvz := rdV_size s.data.toList
  have HTY := hide (fun W => type_any (rdV s.data.toList) W (by omega))
  have hvd := sizeL (rdV s.data.toList)
  have hfz : ∀ nm, (findR nm (fldsL s.data.toList)).1.size ≤ 4194304 := fun nm => Nat.le_trans (findR_size (flds_size s.data.toList)) (by omega)
  have hpz : ∀ nm, (findR nm (rdP s.data.toList)).1.size ≤ 4194304 := fun nm => Nat.le_trans (findR_size (typF_size (rdV s.data.toList).data.toList)) (by omega)
  have HS1 := hide (fun W => smallOr_any { data := #[117, 115, 45, 97, 115, 99, 105, 105] } (findR { data := #[99, 104, 97, 114, 115, 101, 116] } (rdP s.data.toList)).1 (findR { data := #[99, 104, 97, 114, 115, 101, 116] } (rdP s.data.toList)).2 W (by decide) (by have := hpz { data := #[99, 104, 97, 114, 115, 101, 116] }; omega))
  have HS2 := hide (fun W => smallOr_any { data := #[55, 98, 105, 116] } (findR { data := #[67, 111, 110, 116, 101, 110, 116, 45, 84, 114, 97, 110, 115, 102, 101, 114, 45, 69, 110, 99, 111, 100, 105, 110, 103] } (fldsL s.data.toList)).1 (findR { data := #[67, 111, 110, 116, 101, 110, 116, 45, 84, 114, 97, 110, 115, 102, 101, 114, 45, 69, 110, 99, 111, 100, 105, 110, 103] } (fldsL s.data.toList)).2 W (by decide) (by have := hfz { data := #[67, 111, 110, 116, 101, 110, 116, 45, 84, 114, 97, 110, 115, 102, 101, 114, 45, 69, 110, 99, 111, 100, 105, 110, 103] }; omega))
  have HF1 := hide (fun W v (hX : RowF W v (fldsL s.data.toList)) => find_any v (fldsL s.data.toList) { data := #[67, 111, 110, 116, 101, 110, 116, 45, 84, 121, 112, 101] } W hX (by decide))
  have HF2 := hide (fun W v (hX : RowF W v (fldsL s.data.toList)) => find_any v (fldsL s.data.toList) { data := #[67, 111, 110, 116, 101, 110, 116, 45, 84, 114, 97, 110, 115, 102, 101, 114, 45, 69, 110, 99, 111, 100, 105, 110, 103] } W hX (by decide))
  have HP1 := hide (fun W v (hX : RowF W v (rdP s.data.toList)) => param_any v (rdP s.data.toList) { data := #[99, 104, 97, 114, 115, 101, 116] } W hX (by decide))
  have HP2 := hide (fun W v (hX : RowF W v (rdP s.data.toList)) => param_any v (rdP s.data.toList) { data := #[98, 111, 117, 110, 100, 97, 114, 121] } W hX (by decide))
  simp only [findV_eq] at HF1 HF2 HP1 HP2
  have hyz : (rdY s).size ≤ 16777216 := by unfold rdY; rw [size_part s _ _ (by omega)]; omega
  have hbz : (rdB s.data.toList).size ≤ 16777216 := by have := hpz { data := #[98, 111, 117, 110, 100, 97, 114, 121] }; unfold rdB; omega
  have HCU := hide (fun (W : World) (y2 y3 y4 y5 : Value) (h : Blk W P 77 #[.int .i64 lv, .string (rdT s.data.toList), y2, y3, y4, y5]) => cutM_any P lv (rdT s.data.toList) (rdY s) (rdB s.data.toList) y2 y3 y4 y5 W h hyz hbz)
  have HCL := hide (fun W => cloneS_any (rdY s) W (by omega))
  have eK : kidsP lv (rdT s.data.toList).data.toList (rdY s).data.toList (rdB s.data.toList).data.toList = rdK lv s := rfl
  rw [eK] at HCU
  have eC : bts (smL (if (findR { data := #[99, 104, 97, 114, 115, 101, 116] } (rdP s.data.toList)).2 = 0 then (findR { data := #[99, 104, 97, 114, 115, 101, 116] } (rdP s.data.toList)).1 else { data := #[117, 115, 45, 97, 115, 99, 105, 105] }).data.toList) = rdC s.data.toList := rfl
  have eD : bts (smL (if (findR { data := #[67, 111, 110, 116, 101, 110, 116, 45, 84, 114, 97, 110, 115, 102, 101, 114, 45, 69, 110, 99, 111, 100, 105, 110, 103] } (fldsL s.data.toList)).2 = 0 then (findR { data := #[67, 111, 110, 116, 101, 110, 116, 45, 84, 114, 97, 110, 115, 102, 101, 114, 45, 69, 110, 99, 111, 100, 105, 110, 103] } (fldsL s.data.toList)).1 else { data := #[55, 98, 105, 116] }).data.toList) = rdD s.data.toList := rfl
  rw [eC] at HS1
  rw [eD] at HS2
  have eT : bts (typK (rdV s.data.toList).data.toList) = rdT s.data.toList := rfl
  have eP : (typF (rdV s.data.toList).data.toList).map fldP = rdP s.data.toList := rfl
  rw [eT, eP] at HTY
  have eV : (findR { data := #[67, 111, 110, 116, 101, 110, 116, 45, 84, 121, 112, 101] } (fldsL s.data.toList)).1 = rdV s.data.toList := rfl
  rw [eV] at HF1
  have eB : (findR { data := #[98, 111, 117, 110, 100, 97, 114, 121] } (rdP s.data.toList)).1 = rdB s.data.toList := rfl
  rw [eB] at HP2
  have eY : s.extract (parseL s.data.toList).2 s.size = rdY s := rfl
  have HFI := hide (fun F => flds_is (F := F) (l := s.data.toList))
  generalize (parseL s.data.toList).2 = at_ at HPA hat eY

  obtain ⟨KL, hKL⟩ : ∃ KL, rdK lv s = KL := ⟨_, rfl⟩
  rw [hKL] at HCU ⊢
  obtain ⟨M, hM⟩ : ∃ M, KL.length = M := ⟨_, rfl⟩
  rw [hM] at HCU ⊢
  clear eK eC eD eT eP eV eB hKL hM hfz hpz hvd hvz hyz hbz
  generalize (findR { data := #[67, 111, 110, 116, 101, 110, 116, 45, 84, 121, 112, 101] } (fldsL s.data.toList)).2 = n1 at HF1
  generalize (findR { data := #[99, 104, 97, 114, 115, 101, 116] } (rdP s.data.toList)).1 = t2 at HP1 HS1
  generalize (findR { data := #[99, 104, 97, 114, 115, 101, 116] } (rdP s.data.toList)).2 = n2 at HP1 HS1
  generalize (findR { data := #[67, 111, 110, 116, 101, 110, 116, 45, 84, 114, 97, 110, 115, 102, 101, 114, 45, 69, 110, 99, 111, 100, 105, 110, 103] } (fldsL s.data.toList)).1 = t3 at HF2 HS2
  generalize (findR { data := #[67, 111, 110, 116, 101, 110, 116, 45, 84, 114, 97, 110, 115, 102, 101, 114, 45, 69, 110, 99, 111, 100, 105, 110, 103] } (fldsL s.data.toList)).2 = n3 at HF2 HS2
  generalize (findR { data := #[98, 111, 117, 110, 100, 97, 114, 121] } (rdP s.data.toList)).2 = n4 at HP2
  generalize hFF : fldsL s.data.toList = FF at HFI HF1 HF2
  generalize rdP s.data.toList = PP at HTY HP1 HP2
  generalize rdT s.data.toList = ty at HTY HCU ⊢
  generalize rdC s.data.toList = ch at HS1 ⊢
  generalize rdD s.data.toList = co at HS2 ⊢
  generalize rdV s.data.toList = va at HTY HF1
  generalize rdB s.data.toList = bo at HCU HP2
  clear hFF
  have h0i : (at_ : Int) ≤ (s.size : Int) := by omega
  have K := hide hp
  have BP := hide (Below.refl P w)
  have c5 := hp.cell 5
  simp only [List.getElem?_toArray, List.getElem?_cons_succ, List.getElem?_cons_zero] at c5
  go_enter Tryz.func47, Tryz.ntmps47
  go_wp2_with fail
  clear c5
  refine (unhide HPA).mono ?_
  rintro e w1 ⟨v0, F, rfl, ⟨r0, o0⟩, hF, b1⟩
  have hFe := unhide HFI F hF
  subst hFe
  have hs1 := b1.size
  obtain ⟨a0, cap0, hv0, hl0, hft0, _⟩ := id r0
  subst hv0
  have HFT := hide hft0
  have HL0 := hide hl0
  have OF := hide o0
  have hPW := (unhide K).lt
  have KN := hide ((unhide K).below b1)
  have BN := hide (belowP (unhide BP) b1 (Nat.le_of_lt hPW))
  clear K BP hPW
  have K := KN
  have BP := BN
  clear KN BN
  clear b1 o0 hF HPA HFI hft0 hl0
  obtain ⟨NF, hNF⟩ : ∃ NF, F.length = NF := ⟨_, rfl⟩
  have HNF := hide hNF
  rw [hNF] at r0 OF ⊢
  have R0 := hide r0
  clear r0 hNF
  have c5 := (unhide K).cell 5
  simp only [List.getElem?_toArray, List.getElem?_cons_succ, List.getElem?_cons_zero] at c5
  go_wp2_with fail
  clear c5
  skip
  refine (unhide HF1 _ _ (unhide R0)).mono ?_
  rintro e w2 ⟨rfl, b2⟩
  have hPW := (unhide K).lt
  have KN := hide ((unhide K).below b2)
  have BN := hide (belowP (unhide BP) b2 (Nat.le_of_lt hPW))
  clear K BP hPW
  have K := KN
  have BP := BN
  clear KN BN
  have ON := hide (own_below (unhide OF) b2)
  clear OF
  have OF := ON
  clear ON
  have hs2 := b2.size
  clear b2 HF1 R0
  go_wp2_with fail
  refine (unhide HTY _).mono ?_
  rintro e w3 ⟨v3, rfl, ⟨r3, o3⟩, b3⟩
  have hs3 := b3.size
  have OP := hide (own_monoH o3 (show w.heap.size ≤ w2.heap.size by omega))
  obtain ⟨a3, cap3, hv3, hl3, hft3, _⟩ := id r3
  subst hv3
  have HFP := hide hft3
  have HL3 := hide hl3
  have hPW := (unhide K).lt
  have KN := hide ((unhide K).below b3)
  have BN := hide (belowP (unhide BP) b3 (Nat.le_of_lt hPW))
  clear K BP hPW
  have K := KN
  have BP := BN
  clear KN BN
  have ON := hide (own_below (unhide OF) b3)
  clear OF
  have OF := ON
  clear ON
  clear b3 HTY o3 hft3 hl3
  obtain ⟨NP, hNP⟩ : ∃ NP, PP.length = NP := ⟨_, rfl⟩
  have HNP := hide hNP
  rw [hNP] at r3 OP ⊢
  have R3 := hide r3
  clear r3 hNP
  go_wp2_with fail
  refine (unhide HP1 _ _ (unhide R3)).mono ?_
  rintro e w4 ⟨rfl, b4⟩
  have hs4 := b4.size
  have hPW := (unhide K).lt
  have KN := hide ((unhide K).below b4)
  have BN := hide (belowP (unhide BP) b4 (Nat.le_of_lt hPW))
  clear K BP hPW
  have K := KN
  have BP := BN
  clear KN BN
  have ON := hide (own_below (unhide OF) b4)
  clear OF
  have OF := ON
  clear ON
  have ON := hide (own_below (unhide OP) b4)
  clear OP
  have OP := ON
  clear ON
  clear b4 HP1 R3
  go_wp2_with fail
  refine (unhide HS1 _).mono ?_
  rintro e w5 ⟨rfl, b5⟩
  have hs5 := b5.size
  have hPW := (unhide K).lt
  have KN := hide ((unhide K).below b5)
  have BN := hide (belowP (unhide BP) b5 (Nat.le_of_lt hPW))
  clear K BP hPW
  have K := KN
  have BP := BN
  clear KN BN
  have ON := hide (own_below (unhide OF) b5)
  clear OF
  have OF := ON
  clear ON
  have ON := hide (own_below (unhide OP) b5)
  clear OP
  have OP := ON
  clear ON
  clear b5 HS1
  have k := unhide K
  have e1 := k.cell 1
  have e2 := k.cell 2
  have f1 := k.frozen 1
  have f2 := k.frozen 2
  simp only [List.getElem?_toArray, List.getElem?_cons_succ, List.getElem?_cons_zero] at e1 e2
  have KN : Hid (Blk ((w5.setCell ⟨P, 1, none⟩ (.string ty)).setCell ⟨P, 2, none⟩ (.string ch)) P 77 #[.int .i64 lv, .string ty, .string ch, .string x3, .string x4, .string s]) := hide ((k.set 1 (.string ty)).set 2 (.string ch))
  have BN := hide (((unhide BP).setCell (p := ⟨P, 1, none⟩) (Nat.le_refl _) (.string ty)).setCell (p := ⟨P, 2, none⟩) (Nat.le_refl _) (.string ch))
  have ON := hide (own_far (i := 2) (u := .string ch) (own_far (i := 1) (u := .string ty) (unhide OF) k hPw) (k.set 1 (.string ty)) hPw)
  have PN := hide (own_far (i := 2) (u := .string ch) (own_far (i := 1) (u := .string ty) (unhide OP) k hPw) (k.set 1 (.string ty)) hPw)
  have hsz : w5.heap.size = (((w5.setCell ⟨P, 1, none⟩ (.string ty)).setCell ⟨P, 2, none⟩ (.string ch))).heap.size := by simp
  clear k K BP OF OP
  have K := KN
  have BP := BN
  have OF := ON
  have OP := PN
  clear KN BN ON PN
  go_upto_region 7 with (fail)
  generalize ((w5.setCell ⟨P, 1, none⟩ (.string ty)).setCell ⟨P, 2, none⟩ (.string ch)) = Y at *
  clear e1 f1 e2 f2
  have R0 := hide (rowF_of_own (l := F) (by rw [unhide HNF]; exact unhide OF) (unhide HL0) (unhide HFT))
  skip
  go_wp2_with fail
  refine (unhide HF2 _ _ (unhide R0)).mono ?_
  rintro e w6 ⟨rfl, b6⟩
  have hs6 := b6.size
  have hPW := (unhide K).lt
  have KN := hide ((unhide K).below b6)
  have BN := hide (belowP (unhide BP) b6 (Nat.le_of_lt hPW))
  clear K BP hPW
  have K := KN
  have BP := BN
  clear KN BN
  have ON := hide (own_below (unhide OF) b6)
  clear OF
  have OF := ON
  clear ON
  have ON := hide (own_below (unhide OP) b6)
  clear OP
  have OP := ON
  clear ON
  clear b6 HF2 R0
  go_wp2_with fail
  refine (unhide HS2 _).mono ?_
  rintro e w7 ⟨rfl, b7⟩
  have hs7 := b7.size
  have hPW := (unhide K).lt
  have KN := hide ((unhide K).below b7)
  have BN := hide (belowP (unhide BP) b7 (Nat.le_of_lt hPW))
  clear K BP hPW
  have K := KN
  have BP := BN
  clear KN BN
  have ON := hide (own_below (unhide OF) b7)
  clear OF
  have OF := ON
  clear ON
  have ON := hide (own_below (unhide OP) b7)
  clear OP
  have OP := ON
  clear ON
  clear b7 HS2
  have k := unhide K
  have e3 := k.cell 3
  have f3 := k.frozen 3
  simp only [List.getElem?_toArray, List.getElem?_cons_succ, List.getElem?_cons_zero] at e3
  have KN : Hid (Blk (w7.setCell ⟨P, 3, none⟩ (.string co)) P 77 #[.int .i64 lv, .string ty, .string ch, .string co, .string x4, .string s]) := hide (k.set 3 (.string co))
  have BN := hide ((unhide BP).setCell (p := ⟨P, 3, none⟩) (Nat.le_refl _) (.string co))
  have ON := hide (own_far (i := 3) (u := .string co) (unhide OF) k hPw)
  have PN := hide (own_far (i := 3) (u := .string co) (unhide OP) k hPw)
  have hsz : w7.heap.size = ((w7.setCell ⟨P, 3, none⟩ (.string co))).heap.size := by simp
  clear k K BP OF OP
  have K := KN
  have BP := BN
  have OF := ON
  have OP := PN
  clear KN BN ON PN
  go_upto_region 9 with (fail)
  generalize (w7.setCell ⟨P, 3, none⟩ (.string co)) = Z at *
  clear e3 f3
  have R3 := hide (rowF_of_own (l := PP) (by rw [unhide HNP]; exact unhide OP) (unhide HL3) (unhide HFP))
  go_wp2_with fail
  refine (unhide HP2 _ _ (unhide R3)).mono ?_
  rintro e w8 ⟨rfl, b8⟩
  have hs8 := b8.size
  have hPW := (unhide K).lt
  have KN := hide ((unhide K).below b8)
  have BN := hide (belowP (unhide BP) b8 (Nat.le_of_lt hPW))
  clear K BP hPW
  have K := KN
  have BP := BN
  clear KN BN
  have ON := hide (own_below (unhide OF) b8)
  clear OF
  have OF := ON
  clear ON
  have ON := hide (own_below (unhide OP) b8)
  clear OP
  have OP := ON
  clear ON
  clear b8 HP2 R3 OF OP
  go_wp2_with fail
  refine (unhide HCU _ _ _ _ _ (unhide K)).mono ?_
  rintro e w9 ⟨v9, rfl, o9, n9, b9⟩
  have hs9 := b9.size
  have O9 := hide (own_monoH o9 (show w.heap.size ≤ w8.heap.size by omega))
  obtain ⟨a9, cap9, hv9⟩ := own_formH o9
  subst hv9
  have hPW := (unhide K).lt
  have KN := hide ((unhide K).below b9)
  have BN := hide (belowP (unhide BP) b9 (Nat.le_of_lt hPW))
  clear K BP hPW
  have K := KN
  have BP := BN
  clear KN BN
  clear b9 HCU o9
  by_cases hm : M = 0
  · have d1 : ((M : Int) == 0) = true := by simp [hm]
    have HM0 := hide hm
    clear hm
    go_wp2_with fail
    refine (unhide HCL _).mono ?_
    rintro e w10 ⟨rfl, b10⟩
    have k := (unhide K).below b10
    have hPW := (unhide K).lt
    have BN := hide (belowP (unhide BP) b10 (Nat.le_of_lt hPW))
    have ON := hide (own_below (unhide O9) b10)
    have e4 := k.cell 4
    have f4 := k.frozen 4
    simp only [List.getElem?_toArray, List.getElem?_cons_succ, List.getElem?_cons_zero] at e4
    have KN := hide (k.set 4 (.string (rdY s)))
    have BM := hide ((unhide BN).setCell (p := ⟨P, 4, none⟩) (Nat.le_refl _) (.string (rdY s)))
    have OM := hide (own_far (i := 4) (u := .string (rdY s)) (unhide ON) k hPw)
    clear b10 k
    go_wp2
    go_ret
    have OZ := unhide OM
    rw [unhide HM0] at OZ
    exact ⟨_, rfl, OZ, unhide KN, unhide BM⟩
  · have d1 : ((M : Int) == 0) = false := by simp; omega
    go_wp2
    go_ret
    exact ⟨_, rfl, unhide O9, unhide K, unhide BP⟩

end Go.Proofs.YtedpimhhbajljaaGreatDoor
