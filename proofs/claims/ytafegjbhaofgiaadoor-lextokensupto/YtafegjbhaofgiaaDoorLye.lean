/-
  What missiveref28.token does with a quoted text, over this seat's program.
-/
import Derived.Test.YtafegjbhaofgiaaDoorLyd
set_option linter.unusedVariables false
set_option linter.unusedSimpArgs false
namespace Go.Proofs.YtafegjbhaofgiaaDoor
open Go.RowKit Go.Proofs.Lx

theorem QuR.fin {s : ByteArray} {k : Nat} {acc : List UInt8} (h : QuR s k acc) (hk : k < s.size) (h1 : 1 ≤ k) (hc : s[k] = 34) : quoA (s.data.toList.drop 1) = some (acc, k) := by
  unfold QuR at h
  rw [drop_byte s k hk, quoA.eq_def (s[k] :: s.data.toList.drop (k + 1))] at h
  simp only at h
  rw [if_pos hc] at h
  rw [h]; simp; omega
theorem QuR.nl {s : ByteArray} {k : Nat} {acc : List UInt8} (h : QuR s k acc) (hk : k < s.size) (hc : ¬ s[k] = 34) (hn : s[k] = 13 ∨ s[k] = 10) : quoA (s.data.toList.drop 1) = none := by
  unfold QuR at h
  rw [drop_byte s k hk, quoA.eq_def (s[k] :: s.data.toList.drop (k + 1))] at h
  simp only at h
  rw [if_neg hc, if_pos hn] at h
  exact h
theorem QuR.last {s : ByteArray} {k : Nat} {acc : List UInt8} (h : QuR s k acc) (hk : k < s.size) (hc : s[k] = 92) (he : s.size ≤ k + 1) : quoA (s.data.toList.drop 1) = none := by
  unfold QuR at h
  rw [drop_byte s k hk, quoA.eq_def (s[k] :: s.data.toList.drop (k + 1))] at h
  simp only at h
  rw [if_neg (by rw [hc]; decide), if_neg (by rw [hc]; decide), if_pos hc, drop_end s (k := k + 1) (by omega)] at h
  exact h
theorem QuR.bad {s : ByteArray} {k : Nat} {acc : List UInt8} (h : QuR s k acc) (hk : k + 1 < s.size) (hc : s[k] = 92) (hd : ¬ (s[k + 1] = 34 ∨ s[k + 1] = 92)) : quoA (s.data.toList.drop 1) = none := by
  unfold QuR at h
  rw [drop_byte s k (by omega), quoA.eq_def (s[k] :: s.data.toList.drop (k + 1))] at h
  simp only at h
  rw [if_neg (by rw [hc]; decide), if_neg (by rw [hc]; decide), if_pos hc, drop_byte s (k + 1) hk] at h
  simp only at h
  rw [if_neg hd] at h
  exact h
theorem QuR.esc {s : ByteArray} {k : Nat} {acc : List UInt8} (h : QuR s k acc) (hk : k + 1 < s.size) (h1 : 1 ≤ k) (hc : s[k] = 92) (hd : s[k + 1] = 34 ∨ s[k + 1] = 92) : QuR s (k + 2) (acc ++ [s[k + 1]]) := by
  unfold QuR at *
  rw [drop_byte s k (by omega), quoA.eq_def (s[k] :: s.data.toList.drop (k + 1))] at h
  simp only at h
  rw [if_neg (by rw [hc]; decide), if_neg (by rw [hc]; decide), if_pos hc, drop_byte s (k + 1) hk] at h
  simp only at h
  rw [if_pos hd] at h
  rw [h, Option.map_map]
  congr 1
  funext p
  simp
  omega
theorem QuR.next {s : ByteArray} {k : Nat} {acc : List UInt8} (h : QuR s k acc) (hk : k < s.size) (h1 : 1 ≤ k) (h34 : ¬ s[k] = 34) (hn : ¬ (s[k] = 13 ∨ s[k] = 10)) (h92 : ¬ s[k] = 92) : QuR s (k + 1) (acc ++ [s[k]]) := by
  unfold QuR at *
  rw [drop_byte s k hk, quoA.eq_def (s[k] :: s.data.toList.drop (k + 1))] at h
  simp only at h
  rw [if_neg h34, if_neg hn, if_neg h92] at h
  rw [h, Option.map_map]
  congr 1
  funext p
  simp
  omega
theorem QuR.end_ {s : ByteArray} {k : Nat} {acc : List UInt8} (h : QuR s k acc) (hk : s.size ≤ k) : quoA (s.data.toList.drop 1) = none := by
  unfold QuR at h
  rw [drop_end s hk, quoA] at h
  exact h
def cB (b : UInt8) : List Value := [.int .u8 (b.toNat : Int)]
theorem flatB_cells : ∀ l : List UInt8, flatG cB l = Lib.byteCells l
  | [] => rfl
  | b :: r => by rw [flatG_cons, flatB_cells r]; rfl
theorem u8Info : (Tryd.prog.info? 5).map (fun i => (i.zero, i.size, i.bytes)) = some (some (.int .u8 0), 1, 1) := by kernel_rfl
theorem run_app8 (w : World) (B : Nat) (v : Value) (l : List UInt8) (p : UInt8) (ty : TypeId) (hown : w.ownsRow B 5 1 v l.length (Lib.byteCells l)) (hl : l.length ≤ 4194304) (hB : B ≤ w.heap.size) :
    ∃ v' w', (Builtin.append_ #[56, 56] ty #[v, .slice (some ⟨w.heap.size, 0, none⟩) 1 1]).run Tryd.prog (w.alloc (.cells #[.int .u8 (p.toNat : Int)] 5)) = .ok v' w' ∧ w'.ownsRow B 5 1 v' (l ++ [p]).length (Lib.byteCells (l ++ [p])) ∧ Below B w w' := by
  rw [← flatB_cells] at hown
  obtain ⟨v', w', h1, h2, h3⟩ := run_appG cB 1 1 (fun _ => rfl) 5 56 (.int .u8 0) Tryd.underlying56 u8Info rfl (by decide) (by decide) (by decide) (by intro x u hu; simp [cB] at hu; subst hu; rfl) w B v l p ty hown hl hB
  exact ⟨v', w', h1, by rw [← flatB_cells]; exact h2, h3⟩

set_option maxHeartbeats 2000000 in
set_option maxRecDepth 100000 in
theorem refTok_quo (s : ByteArray) (w : World) (h1 : 1 ≤ s.size) (hs : s.size ≤ 4194304) (hc0 : s[0] = 34) :
    Calls Tryd.prog 31 #[.string s] w fun e w' => (∃ v, e = .returned v ∧ RefTV s.data.toList v) ∧ Below w.heap.size w w' := by
  have he : s.toList.isEmpty = false := by rw [is_empty]; exact decide_eq_false (by omega)
  have hlt0 : (0 : Int) < (s.size : Int) := by omega
  have hcl := s[0].toNat_lt
  have hl : s.data.toList = s[0] :: s.data.toList.drop 1 := by
    have := drop_byte s 0 h1
    rwa [List.drop_zero] at this
  have HT0 := hide (OneT.new w)
  have e40 : ((s[0].toNat : Int) == 40) = false := by rw [hc0]; rfl
  have e41 : ((s[0].toNat : Int) == 41) = false := by rw [hc0]; rfl
  have e34 : ((s[0].toNat : Int) == 34) = true := by rw [hc0]; rfl
  have HTK : Hid (tokA s.data.toList = (quoA (s.data.toList.drop 1)).map fun p => ((2, p.1), p.2 + 1)) := hide (by
    conv => lhs; rw [hl]
    simp only [tokA]; rw [if_neg (by rw [hc0]; decide), if_neg (by rw [hc0]; decide), if_pos hc0])
  clear hl hc0
  go_enter Tryd.func31, Tryd.ntmps31
  go_upto_region 1 with (fail)
  rw [show World.alloc w (.cells #[.int .u8 0, .string ⟨#[]⟩] 39) = w.alloc (.cells zTok 39) from rfl]
  have HWE := hide (show (w.alloc (.cells zTok 39)).heap.size = w.heap.size + 1 by simp)
  generalize w.alloc (.cells zTok 39) = W at HT0 HWE ⊢
  have HWS : Hid (w.heap.size + 1 ≤ W.heap.size) := hide (by have := (unhide HT0).k0.lt; omega)
  go_wp2
  clear e40 e41 e34
  go_loopw [5, 6] (fun zv zi wr => ∃ (k : Nat) (acc : List UInt8), zi = .int .i64 k ∧ 1 ≤ k ∧ k ≤ s.size ∧ acc.length ≤ k ∧ Hid (QuR s k acc) ∧ Hid (wr.ownsRow (w.heap.size + 1) 5 1 zv acc.length (Lib.byteCells acc)) ∧ Hid (Below W.heap.size W wr)) (fun _ zi _ => s.size - (intOf zi).toNat)
  case atStart => exact ⟨1, [], rfl, by omega, h1, by simp, hide (by unfold QuR; simp), hide (World.ownsRow_nil _ _ _ _), hide (Below.refl _ _)⟩
  case round =>
    obtain ⟨k, acc, rfl, hk1, hk, hacc, HQ, HO, HBW⟩ := hrel
    by_cases hlt : k < s.size
    · have hlt1 : (k : Int) < (s.size : Int) := by omega
      have hck := s[k].toNat_lt
      by_cases c34 : s[k] = 34
      · have e1 : ((s[k].toNat : Int) == 34) = true := by rw [c34]; rfl
        have hF := (unhide HQ).fin hlt hk1 c34
        have HF : Hid (tokA s.data.toList = some ((2, acc), k + 1)) := hide (by rw [unhide HTK, hF]; rfl)
        have hcv := own_string (own_below (unhide HO) (Below.drew (Below.refl _ _)))
        have hsl := fun W => slice_from s ((k : Int) + 1) (k + 1) (by omega) (by omega) W
        have hwr : IntKind.i64.wrap ((k : Int) + 1) = (k : Int) + 1 := by rw [IntKind.wrap_i64]; omega
        have HX := hide (show bts (s.data.toList.drop (k + 1)) = s.extract (k + 1) s.size from ext_list (by rw [toList_bts, toList_from]))
        have HBF := hide ((unhide HT0).below (unhide HBW))
        have c00 := (unhide HBF).k0.cell 0
        have c01 := (unhide HBF).k0.cell 1
        have f00 := (unhide HBF).k0.frozen 0
        have f01 := (unhide HBF).k0.frozen 1
        simp only [zTok, List.getElem?_toArray, List.getElem?_cons_succ, List.getElem?_cons_zero] at c00 c01
        obtain ⟨ay, cy, hy, _⟩ := own_sliceG (unhide HO)
        subst hy
        obtain ⟨M, hM⟩ : ∃ M, M = acc.length := ⟨_, rfl⟩
        rw [← hM] at hcv ⊢
        obtain ⟨Y, hY⟩ : ∃ Y, Y = bts acc := ⟨_, rfl⟩
        rw [← hY] at hcv
        have HY := hide hY
        clear hF c34 HQ HO HBW hM hY
        go_wp2
        go_region_with (fail)
        (try go_simp)
        (try go_wp2)
        (try simp only [Exit.inBlock, Exit.then])
        refine bodyPost_ret (v := .tuple #[.agg #[.int .u8 2, .string Y], .string (s.extract (k + 1) s.size), .bool true]) ?_ rfl ⟨⟨_, rfl, refTV_some (unhide HF) (by rw [unhide HX, unhide HY]; rfl)⟩, (unhide HBF).fin' _ _⟩
        rw [results_cell_tmp2 rfl]
        go_simp
      · have e1 : ((s[k].toNat : Int) == 34) = false := ne_byte (b := 34) c34 rfl
        by_cases cnl : s[k] = 13 ∨ s[k] = 10
        · have HF : Hid (tokA s.data.toList = none) := hide (by rw [unhide HTK, (unhide HQ).nl hlt c34 cnl]; rfl)
          have e2 : ((s[k].toNat : Int) == 10) = true ∨ (((s[k].toNat : Int) == 10) = false ∧ ((s[k].toNat : Int) == 13) = true) := by
            rcases cnl with h | h
            · right; rw [h]; exact ⟨rfl, rfl⟩
            · left; rw [h]; rfl
          clear HQ c34 cnl
          rcases e2 with e2 | ⟨e2, e3⟩
          · have c00 := ((unhide HT0).below (unhide HBW)).k0.cell 0
            have c01 := ((unhide HT0).below (unhide HBW)).k0.cell 1
            have f00 := ((unhide HT0).below (unhide HBW)).k0.frozen 0
            have f01 := ((unhide HT0).below (unhide HBW)).k0.frozen 1
            simp only [zTok, List.getElem?_toArray, List.getElem?_cons_succ, List.getElem?_cons_zero] at c00 c01
            have HBF := hide ((unhide HT0).below (unhide HBW))
            clear HO HBW
            go_wp2
            (try simp only [Exit.inBlock, Exit.then])
            refine bodyPost_ret (v := .tuple #[.agg #[.int .u8 0, .string ⟨#[]⟩], .string ⟨#[]⟩, .bool false]) ?_ rfl ⟨⟨_, rfl, refTV_none (unhide HF) ⟨_, _, _, rfl⟩⟩, (unhide HBF).fin _ _⟩
            rw [results_cell_tmp2 rfl]
            go_simp
          · have c00 := ((unhide HT0).below (unhide HBW)).k0.cell 0
            have c01 := ((unhide HT0).below (unhide HBW)).k0.cell 1
            have f00 := ((unhide HT0).below (unhide HBW)).k0.frozen 0
            have f01 := ((unhide HT0).below (unhide HBW)).k0.frozen 1
            simp only [zTok, List.getElem?_toArray, List.getElem?_cons_succ, List.getElem?_cons_zero] at c00 c01
            have HBF := hide ((unhide HT0).below (unhide HBW))
            clear HO HBW
            go_wp2
            (try simp only [Exit.inBlock, Exit.then])
            refine bodyPost_ret (v := .tuple #[.agg #[.int .u8 0, .string ⟨#[]⟩], .string ⟨#[]⟩, .bool false]) ?_ rfl ⟨⟨_, rfl, refTV_none (unhide HF) ⟨_, _, _, rfl⟩⟩, (unhide HBF).fin _ _⟩
            rw [results_cell_tmp2 rfl]
            go_simp
        · have e2 : ((s[k].toNat : Int) == 10) = false := ne_byte (b := 10) (fun h => cnl (Or.inr h)) rfl
          have e3 : ((s[k].toNat : Int) == 13) = false := ne_byte (b := 13) (fun h => cnl (Or.inl h)) rfl
          by_cases c92 : s[k] = 92
          · have e4 : ((s[k].toNat : Int) == 92) = true := by rw [c92]; rfl
            by_cases hk2 : k + 1 < s.size
            · have hbe2 : ((k : Int) + 1 == (s.size : Int)) = false := by rw [beq_eq_false_iff_ne]; omega
              have hk2' : (k : Int) + 1 < (s.size : Int) := by omega
              have hc2 := s[k + 1].toNat_lt
              by_cases cd : s[k + 1] = 34 ∨ s[k + 1] = 92
              · have HQ2 := hide ((unhide HQ).esc hk2 hk1 c92 cd)
                have e5 : ((s[k + 1].toNat : Int) != 34) = false ∨ (((s[k + 1].toNat : Int) != 34) = true ∧ ((s[k + 1].toNat : Int) != 92) = false) := by
                  rcases cd with h | h
                  · left; rw [h]; rfl
                  · right; rw [h]; exact ⟨rfl, rfl⟩
                clear HQ c34 cnl c92 cd
                rcases e5 with e5 | ⟨e5, e6⟩
                · obtain ⟨ay, cy, hy, _⟩ := own_sliceG (unhide HO)
                  subst hy
                  obtain ⟨M, hM⟩ : ∃ M, M = acc.length := ⟨_, rfl⟩
                  obtain ⟨v', w', hrun, h2, h3⟩ := run_app8 wr (w.heap.size + 1) (.slice ay acc.length cy) acc s[k + 1] 56 (unhide HO) (by omega) (Nat.le_trans (unhide HWS) (unhide HBW).size)
                  have HO2 := hide h2
                  have HB2 := hide ((unhide HBW).trans (h3.mono (Nat.le_of_eq (unhide HWE))))
                  have hac : (acc ++ [s[k + 1]]).length ≤ k + 2 := by rw [List.length_append]; simp; omega
                  rw [← hM] at hrun ⊢
                  clear h2 h3 HO HBW hM
                  go_wp2_with (at_builtin; refine wpList_append_runB (by rfl) _ _ 56 rfl rfl rfl rfl hrun ?_)
                  exact ⟨⟨k + 2, _, by go_num, by omega, by omega, hac, HQ2, HO2, HB2⟩, by simp [intOf]; omega⟩
                · obtain ⟨ay, cy, hy, _⟩ := own_sliceG (unhide HO)
                  subst hy
                  obtain ⟨M, hM⟩ : ∃ M, M = acc.length := ⟨_, rfl⟩
                  obtain ⟨v', w', hrun, h2, h3⟩ := run_app8 wr (w.heap.size + 1) (.slice ay acc.length cy) acc s[k + 1] 56 (unhide HO) (by omega) (Nat.le_trans (unhide HWS) (unhide HBW).size)
                  have HO2 := hide h2
                  have HB2 := hide ((unhide HBW).trans (h3.mono (Nat.le_of_eq (unhide HWE))))
                  have hac : (acc ++ [s[k + 1]]).length ≤ k + 2 := by rw [List.length_append]; simp; omega
                  rw [← hM] at hrun ⊢
                  clear h2 h3 HO HBW hM
                  go_wp2_with (at_builtin; refine wpList_append_runB (by rfl) _ _ 56 rfl rfl rfl rfl hrun ?_)
                  exact ⟨⟨k + 2, _, by go_num, by omega, by omega, hac, HQ2, HO2, HB2⟩, by simp [intOf]; omega⟩
              · have HF : Hid (tokA s.data.toList = none) := hide (by rw [unhide HTK, (unhide HQ).bad hk2 c92 cd]; rfl)
                have e5 : ((s[k + 1].toNat : Int) != 34) = true := by
                  rw [bne_iff_ne]; intro h
                  exact cd (Or.inl (UInt8.toNat_inj.1 (by have : (34 : UInt8).toNat = 34 := rfl; omega)))
                have e6 : ((s[k + 1].toNat : Int) != 92) = true := by
                  rw [bne_iff_ne]; intro h
                  exact cd (Or.inr (UInt8.toNat_inj.1 (by have : (92 : UInt8).toNat = 92 := rfl; omega)))
                clear HQ c34 cnl c92 cd
                have c00 := ((unhide HT0).below (unhide HBW)).k0.cell 0
                have c01 := ((unhide HT0).below (unhide HBW)).k0.cell 1
                have f00 := ((unhide HT0).below (unhide HBW)).k0.frozen 0
                have f01 := ((unhide HT0).below (unhide HBW)).k0.frozen 1
                simp only [zTok, List.getElem?_toArray, List.getElem?_cons_succ, List.getElem?_cons_zero] at c00 c01
                have HBF := hide ((unhide HT0).below (unhide HBW))
                clear HO HBW
                go_wp2
                (try simp only [Exit.inBlock, Exit.then])
                refine bodyPost_ret (v := .tuple #[.agg #[.int .u8 0, .string ⟨#[]⟩], .string ⟨#[]⟩, .bool false]) ?_ rfl ⟨⟨_, rfl, refTV_none (unhide HF) ⟨_, _, _, rfl⟩⟩, (unhide HBF).fin _ _⟩
                rw [results_cell_tmp2 rfl]
                go_simp
            · have hbe2 : ((k : Int) + 1 == (s.size : Int)) = true := by rw [beq_iff_eq]; omega
              have HF : Hid (tokA s.data.toList = none) := hide (by rw [unhide HTK, (unhide HQ).last hlt c92 (by omega)]; rfl)
              clear HQ c34 cnl c92
              have c00 := ((unhide HT0).below (unhide HBW)).k0.cell 0
              have c01 := ((unhide HT0).below (unhide HBW)).k0.cell 1
              have f00 := ((unhide HT0).below (unhide HBW)).k0.frozen 0
              have f01 := ((unhide HT0).below (unhide HBW)).k0.frozen 1
              simp only [zTok, List.getElem?_toArray, List.getElem?_cons_succ, List.getElem?_cons_zero] at c00 c01
              have HBF := hide ((unhide HT0).below (unhide HBW))
              clear HO HBW
              go_wp2
              (try simp only [Exit.inBlock, Exit.then])
              refine bodyPost_ret (v := .tuple #[.agg #[.int .u8 0, .string ⟨#[]⟩], .string ⟨#[]⟩, .bool false]) ?_ rfl ⟨⟨_, rfl, refTV_none (unhide HF) ⟨_, _, _, rfl⟩⟩, (unhide HBF).fin _ _⟩
              rw [results_cell_tmp2 rfl]
              go_simp
          · have e4 : ((s[k].toNat : Int) == 92) = false := ne_byte (b := 92) c92 rfl
            have HQ2 := hide ((unhide HQ).next hlt hk1 c34 cnl c92)
            clear HQ c34 cnl c92
            obtain ⟨ay, cy, hy, _⟩ := own_sliceG (unhide HO)
            subst hy
            obtain ⟨M, hM⟩ : ∃ M, M = acc.length := ⟨_, rfl⟩
            obtain ⟨v', w', hrun, h2, h3⟩ := run_app8 wr (w.heap.size + 1) (.slice ay acc.length cy) acc s[k] 56 (unhide HO) (by omega) (Nat.le_trans (unhide HWS) (unhide HBW).size)
            have HO2 := hide h2
            have HB2 := hide ((unhide HBW).trans (h3.mono (Nat.le_of_eq (unhide HWE))))
            have hac : (acc ++ [s[k]]).length ≤ k + 1 := by rw [List.length_append]; simp; omega
            rw [← hM] at hrun ⊢
            clear h2 h3 HO HBW hM
            go_wp2_with (at_builtin; refine wpList_append_runB (by rfl) _ _ 56 rfl rfl rfl rfl hrun ?_)
            exact ⟨⟨k + 1, _, by go_num, by omega, by omega, hac, HQ2, HO2, HB2⟩, by simp [intOf]; omega⟩
    · have hlt1 : ¬ (k : Int) < (s.size : Int) := by omega
      have HF : Hid (tokA s.data.toList = none) := hide (by rw [unhide HTK, (unhide HQ).end_ (by omega)]; rfl)
      clear HQ
      have c00 := ((unhide HT0).below (unhide HBW)).k0.cell 0
      have c01 := ((unhide HT0).below (unhide HBW)).k0.cell 1
      have f00 := ((unhide HT0).below (unhide HBW)).k0.frozen 0
      have f01 := ((unhide HT0).below (unhide HBW)).k0.frozen 1
      simp only [zTok, List.getElem?_toArray, List.getElem?_cons_succ, List.getElem?_cons_zero] at c00 c01
      have HBF := hide ((unhide HT0).below (unhide HBW))
      clear HO HBW
      go_wp2
      (try simp only [Exit.inBlock, Exit.then])
      refine bodyPost_ret (v := .tuple #[.agg #[.int .u8 0, .string ⟨#[]⟩], .string ⟨#[]⟩, .bool false]) ?_ rfl ⟨⟨_, rfl, refTV_none (unhide HF) ⟨_, _, _, rfl⟩⟩, (unhide HBF).fin _ _⟩
      rw [results_cell_tmp2 rfl]
      go_simp
end Go.Proofs.YtafegjbhaofgiaaDoor
