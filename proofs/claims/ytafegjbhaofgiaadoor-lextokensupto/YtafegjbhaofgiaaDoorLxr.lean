/-
  What missivelaw28.LexBack does, over this seat's program.
-/
import Derived.Test.YtafegjbhaofgiaaDoorLxp
import Derived.Test.YtafegjbhaofgiaaDoorLxn
set_option linter.unusedVariables false
set_option linter.unusedSimpArgs false
namespace Go.Proofs.YtafegjbhaofgiaaDoor
open Go.RowKit Go.Proofs.Lx

theorem writeA_len : ∀ (a : Nat) (l : List Tok) (y : List UInt8), writeA a l = some y → y.length ≤ wMost l
  | _, [], y, h => by simp [writeA] at h; subst h; simp [wMost]
  | a, t :: l, y, h => by
    rw [writeA] at h
    cases hx : textA t with
    | none => rw [hx] at h; cases h
    | some x =>
      rw [hx] at h
      simp only [Option.map_eq_some_iff] at h
      obtain ⟨z, hz, rfl⟩ := h
      have h1 := writeA_len t.1 l z hz
      have h2 := textA_len hx
      have h3 : (if a ≠ 0 ∧ a ≠ 3 ∧ t.1 ≠ 4 then [32] else ([] : List UInt8)).length ≤ 1 := by split <;> simp
      simp only [List.length_append]
      unfold wMost at *
      simp only [List.map_cons, List.sum_cons]
      omega
theorem writeL_len {l : List Tok} {y : List UInt8} (h : writeL l = some y) : y.length ≤ wMost l := by
  unfold writeL at h
  split at h
  · cases h
  · exact writeA_len 0 l y h
theorem eqlT (x y : Tok) (W : World) : (binOp .eql 39 (.agg #[.int .u8 (x.1 : Int), .string (bts x.2)]) (.agg #[.int .u8 (y.1 : Int), .string (bts y.2)])).run Tryd.prog W = .ok (.bool (decide (x = y))) W := by
  obtain ⟨k, s⟩ := x
  obtain ⟨k', s'⟩ := y
  simp only
  rw [run_eql_struct, run_equalIn_struct W 9999 _ _ _ fields_tok held_tok]
  simp only [Program.fieldsOf, Tryd.underlying39]
  have hd : decide (((k, s) : Tok) = (k', s')) = (decide (k = k') && decide (s = s')) := by
    by_cases h1 : k = k' <;> by_cases h2 : s = s' <;> simp [h1, h2]
  rw [hd]
  have hs : ((k : Int) == (k' : Int)) = decide (k = k') := by rw [Bool.eq_iff_iff]; simp; omega
  have b1 := beqS (bts s) (bts s')
  have hb : decide (bts s = bts s') = decide (s = s') := by rw [Bool.eq_iff_iff]; simp only [decide_eq_true_eq]; exact bts_inj
  rw [hb] at b1
  cases h1 : decide (k = k') <;> cases h2 : decide (s = s') <;> rw [h2] at b1 <;> rw [h1] at hs <;> go_simp


set_option maxHeartbeats 2000000 in
set_option maxRecDepth 100000 in
theorem lexBack_walk (v : Value) (l : List Tok) (s : ByteArray) (w : World) (hE : PowT w) (h : RowT w v l) (hs : sumT l + s.size ≤ 1048576) :
    Calls Tryd.prog 5 #[v, .string s] w fun e w' => e = .returned (.bool true) ∧ Below w.heap.size w w' := by
  have HL := hide (livesX_any w hE)
  have HE := hide hE
  have HR := hide h
  have hmost := sumT_most l
  have HW := hide (fun W (hW : PowT W) (hR : RowT W v l) => write_any v l W hW hR (by omega))
  have HQ := hide (fun W => quote_any s W (by omega))
  obtain ⟨a, cap, rfl, hl, _, _⟩ := h
  have hn : l.length ≤ 1048576 := Nat.le_trans (sumT_len l) (by omega)
  have HN := hide hn
  have HMO := hide hmost
  have HTW := hide (fun y (hy : writeL l = some y) => (⟨writeL_len hy, tokens_write hy⟩ : y.length ≤ wMost l ∧ tokensL y = (l, 0)))
  have HTQ := hide (fun q (hq : quoteL s.data.toList = some q) => (⟨quote_len hq, tokens_quote hq⟩ : q.length ≤ 2 * s.data.toList.length + 2 ∧ tokensL q = ([(2, s.data.toList)], 0)))
  have HSZ := hide (sizeL s)
  clear hE hmost hn
  obtain ⟨n, hnn⟩ : ∃ n, n = l.length := ⟨_, rfl⟩
  rw [← hnn] at HR HW hl ⊢
  have HNN := hide hnn
  clear hnn

  have q11 := fun W => eqlT (2, s.data.toList) (2, s.data.toList) W
  simp only [bts_toList, eq_self, decide_true] at q11
  generalize writeL l = o at HW HTW
  generalize quoteL s.data.toList = p at HQ HTQ
  match o, p with
  | none, none =>
    simp only [wrR] at HW
    simp only [quoR] at HQ
    clear HTW HTQ
    go_enter Tryd.func5, Tryd.ntmps5
    go_wp2_with fail
    refine (unhide HL).mono ?_
    rintro e w1 ⟨rfl, b1⟩
    have B1 := hide b1
    have E1 := hide ((unhide HE).below b1)
    have R1 := hide ((unhide HR).below b1)
    clear b1
    go_wp2_with fail
    refine (unhide HW _ (unhide E1) (unhide R1)).mono ?_
    rintro e w2 ⟨rfl, b2⟩
    have B2 := hide (belows' (unhide B1) b2)
    have R2 := hide ((unhide R1).below b2)
    clear b2 R1
    go_wp2_with fail
    refine (unhide HQ _).mono ?_
    rintro e w5 ⟨rfl, b5⟩
    have B5 := hide (belows' (unhide B2) b5)
    clear b5
    go_wp2
    go_ret
    exact ⟨rfl, unhide B5⟩
  | none, some q =>
    have HT2 := hide (fun W => tokens_any (bts q) W (by have := (unhide HTQ q rfl).1; have := unhide HSZ; rw [size_bts]; omega))
    rw [toList_bts, (unhide HTQ q rfl).2] at HT2
    simp only [wrR] at HW
    simp only [quoR] at HQ
    generalize bts q = Q at HQ HT2
    clear HTW HTQ
    go_enter Tryd.func5, Tryd.ntmps5
    go_wp2_with fail
    refine (unhide HL).mono ?_
    rintro e w1 ⟨rfl, b1⟩
    have B1 := hide b1
    have E1 := hide ((unhide HE).below b1)
    have R1 := hide ((unhide HR).below b1)
    clear b1
    go_wp2_with fail
    refine (unhide HW _ (unhide E1) (unhide R1)).mono ?_
    rintro e w2 ⟨rfl, b2⟩
    have B2 := hide (belows' (unhide B1) b2)
    have R2 := hide ((unhide R1).below b2)
    clear b2 R1
    go_wp2_with fail
    refine (unhide HQ _).mono ?_
    rintro e w5 ⟨rfl, b5⟩
    have B5 := hide (belows' (unhide B2) b5)
    clear b5
    go_wp2_with fail
    refine (unhide HT2 _).mono ?_
    rintro e w6 ⟨⟨v6, rfl, hv6⟩, b6⟩
    have B6 := hide (belows' (unhide B5) b6)
    have hr6 := hv6.row
    obtain ⟨a6, cap6, rfl, _, _, _⟩ := id hr6
    obtain ⟨g6, off6, rfl, _, _, c0, c1⟩ := RowT.tok hr6 (Below.refl _ _) (k := 0) (by simp)
    simp only [List.getElem_cons_zero, bts_toList, Nat.zero_mul, Nat.add_zero, Nat.zero_add] at c0 c1
    simp only [List.length_cons, List.length_nil, Nat.zero_add] at *
    have c0' : w6.cell? ⟨g6, off6, none⟩ = some (.int .u8 2) := c0
    clear b6 hv6 hr6 HT2 c0
    go_wp2
    go_ret
    exact ⟨rfl, unhide B6⟩
  | some y, none =>
    have HT1 := hide (fun W => tokens_any (bts y) W (by have := (unhide HTW y rfl).1; have := unhide HMO; rw [size_bts]; omega))
    rw [toList_bts, (unhide HTW y rfl).2] at HT1
    simp only [wrR] at HW
    simp only [quoR] at HQ
    generalize bts y = Y at HW HT1
    clear HTW HTQ
    go_enter Tryd.func5, Tryd.ntmps5
    go_wp2_with fail
    refine (unhide HL).mono ?_
    rintro e w1 ⟨rfl, b1⟩
    have B1 := hide b1
    have E1 := hide ((unhide HE).below b1)
    have R1 := hide ((unhide HR).below b1)
    clear b1
    go_wp2_with fail
    refine (unhide HW _ (unhide E1) (unhide R1)).mono ?_
    rintro e w2 ⟨rfl, b2⟩
    have B2 := hide (belows' (unhide B1) b2)
    have R2 := hide ((unhide R1).below b2)
    clear b2 R1
    go_wp2_with fail
    refine (unhide HT1 _).mono ?_
    rintro e w3 ⟨⟨v3, rfl, hv3⟩, b3⟩
    have HSM := hide (sameT_any v3 _ l l _ hv3.row ((unhide R2).below b3))
    rw [decide_eq_true rfl] at HSM
    have B3 := hide (belows' (unhide B2) b3)
    clear hv3 b3 HT1
    go_wp2_with fail
    refine (unhide HSM).mono ?_
    rintro e w4 ⟨rfl, b4⟩
    have B4 := hide (belows' (unhide B3) b4)
    clear b4 HSM
    go_wp2_with fail
    refine (unhide HQ _).mono ?_
    rintro e w5 ⟨rfl, b5⟩
    have B5 := hide (belows' (unhide B4) b5)
    clear b5
    go_wp2
    go_ret
    exact ⟨rfl, unhide B5⟩
  | some y, some q =>
    have HT1 := hide (fun W => tokens_any (bts y) W (by have := (unhide HTW y rfl).1; have := unhide HMO; rw [size_bts]; omega))
    rw [toList_bts, (unhide HTW y rfl).2] at HT1
    have HT2 := hide (fun W => tokens_any (bts q) W (by have := (unhide HTQ q rfl).1; have := unhide HSZ; rw [size_bts]; omega))
    rw [toList_bts, (unhide HTQ q rfl).2] at HT2
    simp only [wrR] at HW
    simp only [quoR] at HQ
    generalize bts y = Y at HW HT1
    generalize bts q = Q at HQ HT2
    clear HTW HTQ
    go_enter Tryd.func5, Tryd.ntmps5
    go_wp2_with fail
    refine (unhide HL).mono ?_
    rintro e w1 ⟨rfl, b1⟩
    have B1 := hide b1
    have E1 := hide ((unhide HE).below b1)
    have R1 := hide ((unhide HR).below b1)
    clear b1
    go_wp2_with fail
    refine (unhide HW _ (unhide E1) (unhide R1)).mono ?_
    rintro e w2 ⟨rfl, b2⟩
    have B2 := hide (belows' (unhide B1) b2)
    have R2 := hide ((unhide R1).below b2)
    clear b2 R1
    go_wp2_with fail
    refine (unhide HT1 _).mono ?_
    rintro e w3 ⟨⟨v3, rfl, hv3⟩, b3⟩
    have HSM := hide (sameT_any v3 _ l l _ hv3.row ((unhide R2).below b3))
    rw [decide_eq_true rfl] at HSM
    have B3 := hide (belows' (unhide B2) b3)
    clear hv3 b3 HT1
    go_wp2_with fail
    refine (unhide HSM).mono ?_
    rintro e w4 ⟨rfl, b4⟩
    have B4 := hide (belows' (unhide B3) b4)
    clear b4 HSM
    go_wp2_with fail
    refine (unhide HQ _).mono ?_
    rintro e w5 ⟨rfl, b5⟩
    have B5 := hide (belows' (unhide B4) b5)
    clear b5
    go_wp2_with fail
    refine (unhide HT2 _).mono ?_
    rintro e w6 ⟨⟨v6, rfl, hv6⟩, b6⟩
    have B6 := hide (belows' (unhide B5) b6)
    have hr6 := hv6.row
    obtain ⟨a6, cap6, rfl, _, _, _⟩ := id hr6
    obtain ⟨g6, off6, rfl, _, _, c0, c1⟩ := RowT.tok hr6 (Below.refl _ _) (k := 0) (by simp)
    simp only [List.getElem_cons_zero, bts_toList, Nat.zero_mul, Nat.add_zero, Nat.zero_add] at c0 c1
    simp only [List.length_cons, List.length_nil, Nat.zero_add] at *
    have c0' : w6.cell? ⟨g6, off6, none⟩ = some (.int .u8 2) := c0
    clear b6 hv6 hr6 HT2 c0
    go_wp2
    go_ret
    exact ⟨rfl, unhide B6⟩
end Go.Proofs.YtafegjbhaofgiaaDoor
