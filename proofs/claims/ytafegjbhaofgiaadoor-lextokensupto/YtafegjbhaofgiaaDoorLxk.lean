/-
  Rows of tokens, and what lex.Write does, over this seat's program.
-/
import Derived.Test.YtafegjbhaofgiaaDoorLxj
import Derived.Test.YtafegjbhaofgiaaDoorRwg
set_option linter.unusedVariables false
set_option linter.unusedSimpArgs false
namespace Go.Proofs.YtafegjbhaofgiaaDoor
open Go.RowKit Go.Proofs.Lx

def FitT (t : Tok) : Prop := t.1 ≤ 255 ∧ t.2.length ≤ 4294967296
abbrev RowT := RowG tkC FitT
theorem RowT.tok {w W : World} {a : Option Addr} {n cap : Nat} {l : List Tok} (h : RowT w (.slice a n cap) l) (hb : Below w.heap.size w W) {k : Nat} (hk : k < l.length) :
    ∃ g off, a = some ⟨g, off, none⟩ ∧ g < W.heap.size ∧ FitT l[k] ∧ W.cell? ⟨g, off + k * 2, none⟩ = some (.int .u8 (l[k].1 : Int)) ∧ W.cell? ⟨g, off + k * 2 + 1, none⟩ = some (.string (bts l[k].2)) := by
  obtain ⟨g, off, cap', hv, hlt, hc⟩ := RowG.at tkC_len (h.below hb) hk
  obtain ⟨_, _, _, _, hfit, _⟩ := h
  injection hv with e1 _ _
  have h0 := hc 0 (by omega)
  have h1 := hc 1 (by omega)
  exact ⟨g, off, e1, hlt, hfit _ (List.getElem_mem _), h0, h1⟩
/-- What is written, or the error, as Go tells it. -/
def wrR (o : Option (List UInt8)) : Value := match o with
  | some q => .tuple #[.string (bts q), .int .i64 0]
  | none => .tuple #[.string ⟨#[]⟩, .int .i64 2]
/-- How many bytes the tokens' texts have at most. -/
def wMost (l : List Tok) : Nat := (l.map fun t => 2 * t.2.length + 24).sum
theorem wMost_take {l : List Tok} {k : Nat} (h : k < l.length) : wMost (l.take (k + 1)) = wMost (l.take k) + (2 * l[k].2.length + 24) := by
  unfold wMost
  rw [List.take_succ_eq_append_getElem h, List.map_append, List.sum_append_nat]
  simp only [List.map_cons, List.map_nil, List.sum_cons, List.sum_nil, Nat.add_zero]
theorem wMost_le {l : List Tok} (k : Nat) : wMost (l.take k) ≤ wMost l := by
  have : wMost l = wMost (l.take k) + wMost (l.drop k) := by
    unfold wMost
    rw [← List.sum_append_nat, ← List.map_append, List.take_append_drop]
  omega
theorem textA_len {t : Tok} {x : List UInt8} (h : textA t = some x) : x.length + 1 ≤ 2 * t.2.length + 24 := by
  obtain ⟨k, t⟩ := t
  unfold textA at h
  simp only at h
  split at h
  · split at h
    · injection h with h; subst h; simp only; omega
    · cases h
  split at h
  · unfold strA at h
    split at h
    · rename_i q hq
      injection h with h; subst h
      have := quote_len hq
      simp only; omega
    · split at h
      · injection h with h; subst h
        have := decL_len 8 t.length (by omega)
        simp only [List.length_cons, List.length_append, List.length_nil]; omega
      · cases h
  split at h
  · split at h
    · injection h with h; subst h; simp
    · cases h
  split at h
  · split at h
    · injection h with h; subst h; simp
    · cases h
  · cases h
/-- What is still to be written, behind k tokens of which acc was made, the last one of the kind a. -/
def WrI (l : List Tok) (k a : Nat) (acc : List UInt8) : Prop := writeA 0 l = (writeA a (l.drop k)).map fun y => acc ++ y
theorem WrI.next {l : List Tok} {k a : Nat} {acc : List UInt8} (h : WrI l k a acc) (hk : k < l.length) {x : List UInt8} (hx : textA l[k] = some x) :
    WrI l (k + 1) l[k].1 (acc ++ ((if a ≠ 0 ∧ a ≠ 3 ∧ l[k].1 ≠ 4 then [32] else []) ++ x)) := by
  unfold WrI at *
  rw [h, List.drop_eq_getElem_cons hk, writeA, hx]
  simp only [Option.map_map]
  congr 1
  funext y
  simp
theorem WrI.no {l : List Tok} {k a : Nat} {acc : List UInt8} (h : WrI l k a acc) (hk : k < l.length) (hx : textA l[k] = none) : writeA 0 l = none := by
  unfold WrI at h
  rw [h, List.drop_eq_getElem_cons hk, writeA, hx]; rfl
theorem WrI.fin {l : List Tok} {k a : Nat} {acc : List UInt8} (h : WrI l k a acc) (hk : l.length ≤ k) : writeA 0 l = some acc := by
  unfold WrI at h
  rw [h, List.drop_of_length_le hk, writeA]; simp

set_option maxHeartbeats 1000000 in
set_option maxRecDepth 100000 in
theorem write_any (v : Value) (l : List Tok) (w : World) (ht : PowT w) (h : RowT w v l) (hm : wMost l ≤ 549755813888) :
    Calls Tryd.prog 15 #[v] w fun e w' => e = .returned (wrR (writeL l)) ∧ Below w.heap.size w w' := by
  have HR := hide h
  have HP := hide ht
  obtain ⟨a, cap, rfl, hl, _, _⟩ := h
  obtain ⟨n, hnn⟩ : ∃ n, l.length = n := ⟨_, rfl⟩
  rw [hnn] at HR hl ⊢
  have HN := hide hnn
  have HM := hide hm
  clear ht hnn hm
  by_cases hbig : 4096 < n
  · have hbig' : 4096 < (n : Int) := by omega
    have HF : Hid (writeL l = none) := hide (by rw [writeL, if_pos (by rw [unhide HN]; exact hbig)])
    go_enter Tryd.func15, Tryd.ntmps15
    go_wp2
    go_ret2
    exact ⟨by rw [unhide HF]; rfl, Below.refl _ _⟩
  have hbig' : ¬ 4096 < (n : Int) := by omega
  have HWL : Hid (writeL l = writeA 0 l) := hide (by rw [writeL, if_neg (by rw [unhide HN]; exact hbig)])
  have HW0 := hide (Wr.new w)
  go_enter Tryd.func15, Tryd.ntmps15
  go_wp2
  go_loopw [5, 6, 7, 8, 14] (fun _ _ _ _ z wr => ∃ (k : Nat) (p : Nat) (acc : List UInt8), z = .int .i64 k ∧ k ≤ n ∧ Hid (acc.length ≤ wMost (l.take k)) ∧ Hid ((k = 0 → p = 0) ∧ ∀ (h : k - 1 < l.length), 0 < k → p = l[k - 1].1 ∧ p ≠ 0) ∧ Hid (WrI l k p acc) ∧ Hid (Wr w wr acc)) (fun _ _ _ _ z _ => n - (intOf z).toNat)
  case atStart => exact ⟨0, 0, [], rfl, Nat.zero_le _, hide (by simp [wMost]), hide ⟨fun _ => rfl, fun _ h => absurd h (by omega)⟩, hide (by unfold WrI; simp), HW0⟩
  case round =>
    obtain ⟨k, p, acc, rfl, hk, HL, HA, HI, HW⟩ := hrel
    by_cases hlt : k < n
    · have hlt1 : (k : Int) < (n : Int) := by omega
      have hkl : k < l.length := by rw [unhide HN]; exact hlt
      obtain ⟨g, off, rfl, hg, hft, c0, c1⟩ := RowT.tok (unhide HR) (unhide HW).bel hkl
      have hla := unhide HL
      have hmk := wMost_take hkl
      have hml := wMost_le (l := l) (k + 1)
      have hmm := unhide HM
      have HTX := hide (fun W (h : PowT W) => textOf_any l[k] W h hft.1 (by have := hft.2; omega))
      have hb1 := (Below.refl wr.heap.size wr).alloc (Nat.le_refl _) (Obj.cells #[.int .u8 (l[k].1 : Int), .string (bts l[k].2)] 39)
      have HP1 := hide (((unhide HP).below (unhide HW).bel).below hb1)
      have HK := hide (Blk.new wr 39 #[.int .u8 (l[k].1 : Int), .string (bts l[k].2)])
      have HB1 := hide hb1
      have HI1 := hide (fun x hx => (unhide HI).next hkl (x := x) hx)
      have HI2 := hide ((unhide HI).no hkl)
      have HX := hide (fun x (hx : textA l[k] = some x) => textA_len hx)
      have hkind : ∀ x, textA l[k] = some x → l[k].1 ≠ 0 := fun x hx => by have := textA_kind hx; omega
      have HKD := hide hkind
      have HLN : Hid (acc.length + (2 * l[k].2.length + 24) ≤ wMost (l.take (k + 1)) ∧ wMost (l.take (k + 1)) ≤ 549755813888) := hide (by omega)
      clear hb1 hft hla hmk hml hmm hkind HL HI
      simp only [tkV] at HTX
      obtain ⟨kk, hkk⟩ : ∃ kk, kk = l[k].1 := ⟨_, rfl⟩
      rw [← hkk] at c0 HTX HP1 HK HB1 HI1 HKD
      have HPK : Hid (∀ h : k + 1 - 1 < l.length, kk = l[k + 1 - 1].1) := hide (fun h => hkk)
      generalize hx2 : bts l[k].2 = X at c1 HTX HP1 HK HB1
      generalize htk : textA l[k] = o at HTX HI1 HI2 HX HKD
      generalize 2 * l[k].2.length + 24 = M at HLN HX
      clear hkk hx2 htk
      cases o with
      | none =>
        have HF := hide ((unhide HWL).trans (unhide HI2 rfl))
        go_wp2_with fail
        refine (unhide HTX _ (unhide HP1)).mono ?_
        rintro e w2 ⟨⟨v, rfl, hv⟩, b2⟩
        simp only [FtxV] at hv
        obtain ⟨x, rfl⟩ := hv
        have HB2 := hide ((unhide HW).bel.trans (((unhide HB1).mono (unhide HW).bel.size).trans (b2.mono (Nat.le_trans (unhide HW).bel.size (unhide HB1).size))))
        clear b2 HB1 HI1 HI2 HX HKD HPK HLN HA HW HK
        go_wp2
        go_ret2
        exact ⟨by rw [unhide HF]; rfl, unhide HB2⟩
      | some x =>
        by_cases hk0 : k = 0
        · have hk0' : ¬ 0 < (k : Int) := by omega
          have HK0 := hide hk0
          clear hk0
          go_wp2_with fail
          refine (unhide HTX _ (unhide HP1)).mono ?_
          rintro e w2 ⟨⟨v, rfl, hv⟩, b2⟩
          simp only [FtxV] at hv
          subst hv
          have HX1 := hide (unhide HX x rfl)
          have HW2 := hide (((unhide HW).below (unhide HB1)).below b2)
          have kc := ((unhide HK).below b2).cell 0
          simp only [List.getElem?_toArray, List.getElem?_cons_zero] at kc
          have HI3 := hide (unhide HI1 x rfl)
          have HKN := hide (unhide HKD x rfl)
          clear b2 HB1 HI1 HI2 HX HKD HW HK c0 c1
          have hp : p = 0 := (unhide HA).1 (unhide HK0)
          have HP0 := hide hp
          clear hp HA
          have hz : (bts x).size = x.length := size_bts x
          have HS1 := hide (fun W (h : Wr w W acc) => wStr h (bts x) (by have := unhide HX1; have := unhide HLN; rw [hz]; (try simp only [List.length_append, List.length_cons, List.length_nil]); omega))
          rw [toList_bts] at HS1
          have HL2 : Hid ((acc ++ x).length ≤ wMost (l.take (k + 1))) := hide (by have := unhide HX1; have := unhide HLN; simp only [List.length_append, List.length_cons, List.length_nil]; omega)
          clear hz HX1 HLN
          go_wp2_with fail
          refine (unhide HS1 _ (unhide HW2)).mono ?_
          rintro e w4 ⟨rfl, h4⟩
          have HW4 := hide h4
          clear h4 HS1
          go_wp2
          exact ⟨⟨k + 1, kk, (acc ++ x), by go_num, by omega, HL2, hide ⟨fun h => absurd h (by omega), fun h _ => ⟨unhide HPK h, unhide HKN⟩⟩, hide (by have := unhide HI3; rw [if_neg (fun h => h.1 (unhide HP0))] at this; simpa using this), HW4⟩, by simp [intOf]; omega⟩
        · by_cases hp3 : p = 3
          · have HP3 := hide hp3
            clear hp3
            go_wp2_with fail
            refine (unhide HTX _ (unhide HP1)).mono ?_
            rintro e w2 ⟨⟨v, rfl, hv⟩, b2⟩
            simp only [FtxV] at hv
            subst hv
            have HX1 := hide (unhide HX x rfl)
            have HW2 := hide (((unhide HW).below (unhide HB1)).below b2)
            have kc := ((unhide HK).below b2).cell 0
            simp only [List.getElem?_toArray, List.getElem?_cons_zero] at kc
            have HI3 := hide (unhide HI1 x rfl)
            have HKN := hide (unhide HKD x rfl)
            clear b2 HB1 HI1 HI2 HX HKD HW HK c0 c1
            have hk1 : 1 ≤ k := by omega
            have hk1' : 0 < (k : Int) := by omega
            have hkp : k - 1 < l.length := by have := unhide HN; omega
            have hkn : (k : Int) - 1 < (n : Int) := by omega
            have hkn0 : 0 ≤ (k : Int) - 1 := by omega
            obtain ⟨g', off', hge, _, _, d0, _⟩ := RowT.tok (unhide HR) (unhide HW2).bel hkp
            injection hge with hge
            injection hge with hg1 hg2
            subst hg1 hg2
            have hp := (unhide HA).2 hkp hk1
            rw [← hp.1] at d0
            have HP0 := hide hp.2
            clear hp HA
            have e3 : ((p : Int) != 3) = false := by rw [unhide HP3]; rfl
            have hz : (bts x).size = x.length := size_bts x
            have HS1 := hide (fun W (h : Wr w W acc) => wStr h (bts x) (by have := unhide HX1; have := unhide HLN; rw [hz]; (try simp only [List.length_append, List.length_cons, List.length_nil]); omega))
            rw [toList_bts] at HS1
            have HL2 : Hid ((acc ++ x).length ≤ wMost (l.take (k + 1))) := hide (by have := unhide HX1; have := unhide HLN; simp only [List.length_append, List.length_cons, List.length_nil]; omega)
            clear hz HX1 HLN
            go_wp2_with fail
            refine (unhide HS1 _ (unhide HW2)).mono ?_
            rintro e w4 ⟨rfl, h4⟩
            have HW4 := hide h4
            clear h4 HS1
            go_wp2
            exact ⟨⟨k + 1, kk, (acc ++ x), by go_num, by omega, HL2, hide ⟨fun h => absurd h (by omega), fun h _ => ⟨unhide HPK h, unhide HKN⟩⟩, hide (by have := unhide HI3; rw [if_neg (fun h => h.2.1 (unhide HP3))] at this; simpa using this), HW4⟩, by simp [intOf]; omega⟩
          · by_cases h4 : kk = 4
            · have HP3 := hide h4
              clear h4
              go_wp2_with fail
              refine (unhide HTX _ (unhide HP1)).mono ?_
              rintro e w2 ⟨⟨v, rfl, hv⟩, b2⟩
              simp only [FtxV] at hv
              subst hv
              have HX1 := hide (unhide HX x rfl)
              have HW2 := hide (((unhide HW).below (unhide HB1)).below b2)
              have kc := ((unhide HK).below b2).cell 0
              simp only [List.getElem?_toArray, List.getElem?_cons_zero] at kc
              have HI3 := hide (unhide HI1 x rfl)
              have HKN := hide (unhide HKD x rfl)
              clear b2 HB1 HI1 HI2 HX HKD HW HK c0 c1
              have hk1 : 1 ≤ k := by omega
              have hk1' : 0 < (k : Int) := by omega
              have hkp : k - 1 < l.length := by have := unhide HN; omega
              have hkn : (k : Int) - 1 < (n : Int) := by omega
              have hkn0 : 0 ≤ (k : Int) - 1 := by omega
              obtain ⟨g', off', hge, _, _, d0, _⟩ := RowT.tok (unhide HR) (unhide HW2).bel hkp
              injection hge with hge
              injection hge with hg1 hg2
              subst hg1 hg2
              have hp := (unhide HA).2 hkp hk1
              rw [← hp.1] at d0
              have HP0 := hide hp.2
              clear hp HA
              have e3 : ((p : Int) != 3) = true := by rw [bne_iff_ne]; omega
              have e4 : ((kk : Int) != 4) = false := by rw [unhide HP3]; rfl
              clear hp3
              have hz : (bts x).size = x.length := size_bts x
              have HS1 := hide (fun W (h : Wr w W acc) => wStr h (bts x) (by have := unhide HX1; have := unhide HLN; rw [hz]; (try simp only [List.length_append, List.length_cons, List.length_nil]); omega))
              rw [toList_bts] at HS1
              have HL2 : Hid ((acc ++ x).length ≤ wMost (l.take (k + 1))) := hide (by have := unhide HX1; have := unhide HLN; simp only [List.length_append, List.length_cons, List.length_nil]; omega)
              clear hz HX1 HLN
              go_wp2_with fail
              refine (unhide HS1 _ (unhide HW2)).mono ?_
              rintro e w4 ⟨rfl, h4⟩
              have HW4 := hide h4
              clear h4 HS1
              go_wp2
              exact ⟨⟨k + 1, kk, (acc ++ x), by go_num, by omega, HL2, hide ⟨fun h => absurd h (by omega), fun h _ => ⟨unhide HPK h, unhide HKN⟩⟩, hide (by have := unhide HI3; rw [if_neg (fun h => h.2.2 (unhide HP3))] at this; simpa using this), HW4⟩, by simp [intOf]; omega⟩
            · go_wp2_with fail
              refine (unhide HTX _ (unhide HP1)).mono ?_
              rintro e w2 ⟨⟨v, rfl, hv⟩, b2⟩
              simp only [FtxV] at hv
              subst hv
              have HX1 := hide (unhide HX x rfl)
              have HW2 := hide (((unhide HW).below (unhide HB1)).below b2)
              have kc := ((unhide HK).below b2).cell 0
              simp only [List.getElem?_toArray, List.getElem?_cons_zero] at kc
              have HI3 := hide (unhide HI1 x rfl)
              have HKN := hide (unhide HKD x rfl)
              clear b2 HB1 HI1 HI2 HX HKD HW HK c0 c1
              have hk1 : 1 ≤ k := by omega
              have hk1' : 0 < (k : Int) := by omega
              have hkp : k - 1 < l.length := by have := unhide HN; omega
              have hkn : (k : Int) - 1 < (n : Int) := by omega
              have hkn0 : 0 ≤ (k : Int) - 1 := by omega
              obtain ⟨g', off', hge, _, _, d0, _⟩ := RowT.tok (unhide HR) (unhide HW2).bel hkp
              injection hge with hge
              injection hge with hg1 hg2
              subst hg1 hg2
              have hp := (unhide HA).2 hkp hk1
              rw [← hp.1] at d0
              have HP0 := hide hp.2
              clear hp HA
              have e3 : ((p : Int) != 3) = true := by rw [bne_iff_ne]; omega
              have e4 : ((kk : Int) != 4) = true := by rw [bne_iff_ne]; omega
              have HP3 := hide hp3
              have HP4 := hide h4
              clear hp3 h4
              have HSP := hide (wByte (unhide HW2) 32 32 rfl (by have := unhide HX1; have := unhide HLN; omega))
              have hz : (bts x).size = x.length := size_bts x
              have HS1 := hide (fun W (h : Wr w W (acc ++ [32])) => wStr h (bts x) (by have := unhide HX1; have := unhide HLN; rw [hz]; (try simp only [List.length_append, List.length_cons, List.length_nil]); omega))
              rw [toList_bts] at HS1
              have HL2 : Hid (((acc ++ [32]) ++ x).length ≤ wMost (l.take (k + 1))) := hide (by have := unhide HX1; have := unhide HLN; simp only [List.length_append, List.length_cons, List.length_nil]; omega)
              clear hz HX1 HLN
              go_wp2_with fail
              refine (unhide HSP).mono ?_
              rintro e w3 ⟨rfl, h3⟩
              have HW3 := hide h3
              clear h3 HSP
              go_wp2_with fail
              refine (unhide HS1 _ (unhide HW3)).mono ?_
              rintro e w4 ⟨rfl, h4⟩
              have HW4 := hide h4
              clear h4 HS1
              go_wp2
              exact ⟨⟨k + 1, kk, (acc ++ [32] ++ x), by go_num, by omega, HL2, hide ⟨fun h => absurd h (by omega), fun h _ => ⟨unhide HPK h, unhide HKN⟩⟩, hide (by have := unhide HI3; rw [if_pos ⟨unhide HP0, unhide HP3, unhide HP4⟩] at this; simpa using this), HW4⟩, by simp [intOf]; omega⟩
    · have hlt1 : ¬ (k : Int) < (n : Int) := by omega
      have HF := hide ((unhide HWL).trans ((unhide HI).fin (by rw [unhide HN]; omega)))
      have HS := hide (Tryd.Builder_String_any_k w.heap.size w.heap.size acc wr (unhide HW).isb (unhide HW).bel.size)
      have HB := hide (unhide HW).bel
      clear HL HA HI HW
      go_wp2_with fail
      refine (unhide HS).mono ?_
      rintro e w3 ⟨rfl, _, hb3, _⟩
      have HB3 := hide ((unhide HB).trans hb3)
      clear hb3 HS
      go_wp2
      go_ret2
      exact ⟨by rw [unhide HF]; rfl, unhide HB3⟩
end Go.Proofs.YtafegjbhaofgiaaDoor
