/-
  What lex.first does, over this seat's program.
-/
import Derived.Test.YtihgmpebpkjmkaaGreatDoorBnd11
import Derived.Laws.ResultCell
import Derived.Deep.Cut
set_option linter.unusedVariables false
namespace Go.Proofs.YtihgmpebpkjmkaaGreatDoor
open Go.RowKit Go.Proofs.Lx

/-- A token's two cells, and its value. -/
def tkC (t : Tok) : List Value := [.int .u8 (t.1 : Int), .string (bts t.2)]
def tkV (t : Tok) : Value := .agg #[.int .u8 (t.1 : Int), .string (bts t.2)]
theorem tkC_len (t : Tok) : (tkC t).length = 2 := rfl
/-- What first tells: the token, and how many bytes it has; 0 bytes where there is none. -/
def FirV (o : Option (Tok × Nat)) (v : Value) : Prop := match o with
  | some p => v = .tuple #[tkV p.1, .int .i64 (p.2 : Int)]
  | none => ∃ k x, v = .tuple #[.agg #[.int .u8 k, .string x], .int .i64 0]
theorem below2 {B s : Nat} {w W : World} (h : Below B w W) (hs : B ≤ s) : ∀ u0 u1, Below B w ((W.setCell ⟨s, 0, none⟩ u0).setCell ⟨s, 1, none⟩ u1) := by
  intro u0 u1
  exact (h.setCell (p := ⟨s, 0, none⟩) hs _).setCell (p := ⟨s, 1, none⟩) hs _
def zTok : Array Value := #[.int .u8 0, .string ⟨#[]⟩]
/-- Two tokens' boxes, of which the second one is at work. -/
structure TwoT (w W : World) (k : Int) : Prop where
  bel : Below w.heap.size w W
  k0 : Blk W w.heap.size 41 zTok
  k1 : Blk W (w.heap.size + 1) 41 #[.int .u8 k, .string ⟨#[]⟩]
theorem TwoT.new (w : World) : TwoT w ((w.alloc (.cells zTok 41)).alloc (.cells zTok 41)) 0 := by
  have h1 : Below (w.alloc (.cells zTok 41)).heap.size (w.alloc (.cells zTok 41)) ((w.alloc (.cells zTok 41)).alloc (.cells zTok 41)) := (Below.refl _ _).alloc (Nat.le_refl _) _
  refine ⟨((Below.refl _ w).alloc (Nat.le_refl _) _).trans (h1.mono (by simp)), (Blk.new w _ _).below h1, ?_⟩
  have := Blk.new (w.alloc (.cells zTok 41)) 41 zTok
  simp only [World.size_alloc] at this
  exact this
theorem TwoT.kind {w W : World} (h : TwoT w W 0) (k : Int) : TwoT w (W.setCell ⟨w.heap.size + 1, 0, none⟩ (.int .u8 k)) k :=
  ⟨h.bel.setCell (p := ⟨w.heap.size + 1, 0, none⟩) (Nat.le_succ _) _, h.k0.other (by show w.heap.size ≠ w.heap.size + 1; omega) _, by
    have := h.k1.set 0 (.int .u8 k)
    simpa using this⟩
theorem TwoT.below {w W W' : World} {k : Int} (h : TwoT w W k) (hb : Below W.heap.size W W') : TwoT w W' k :=
  ⟨h.bel.trans (hb.mono h.bel.size), h.k0.below hb, h.k1.below hb⟩

set_option maxHeartbeats 4000000 in
set_option maxRecDepth 100000 in
theorem first_any (s : ByteArray) (w : World) (h1 : 1 ≤ s.size) (hs : s.size ≤ 1099511627000) :
    Calls Tryz.prog 24 #[.string s] w fun e w' => (∃ v, e = .returned v ∧ FirV (tokA s.data.toList) v) ∧ Below w.heap.size w w' := by
  have hl : s.data.toList = s[0] :: s.data.toList.drop 1 := by
    have := drop_byte s 0 h1
    rwa [List.drop_zero] at this
  have hh : s.data.toList.head? = some s[0] := by rw [hl]; rfl
  have hcl := s[0].toNat_lt
  have HT0 := hide (TwoT.new w)
  have hlt : (0 : Int) < (s.size : Int) := by omega

  by_cases c40 : s[0] = 40
  · have HF : Hid (tokA s.data.toList = some ((3, [40]), 1)) := hide (by rw [hl]; simp only [tokA]; rw [if_pos c40])
    have e40 : ((s[0].toNat : Int) == 40) = true := by rw [c40]; rfl
    have HC := hide (fun W => lclone_any ⟨#[40]⟩ W (by decide))
    clear hl hh c40
    go_enter Tryz.func24, Tryz.ntmps24
    go_upto_region 7 with (fail)
    have HT := HT0
    rw [show (World.alloc (World.alloc w (.cells #[.int .u8 0, .string ⟨#[]⟩] 41)) (.cells #[.int .u8 0, .string ⟨#[]⟩] 41)) = (w.alloc (.cells zTok 41)).alloc (.cells zTok 41) from rfl]
    generalize (w.alloc (.cells zTok 41)).alloc (.cells zTok 41) = W at HT HT0 ⊢
    have c00 := (unhide HT).k0.cell 0
    have c01 := (unhide HT).k0.cell 1
    have c10 := (unhide HT).k1.cell 0
    have c11 := (unhide HT).k1.cell 1
    have f00 := (unhide HT).k0.frozen 0
    have f01 := (unhide HT).k0.frozen 1
    have f10 := (unhide HT).k1.frozen 0
    have f11 := (unhide HT).k1.frozen 1
    simp only [zTok, List.getElem?_toArray, List.getElem?_cons_succ, List.getElem?_cons_zero] at c00 c01 c10 c11
    go_wp2_with fail
    refine (unhide HC _).mono ?_
    rintro e w1 ⟨rfl, b1⟩
    have HT1 := hide ((unhide HT).below b1)
    have c00 := (unhide HT1).k0.cell 0
    have c01 := (unhide HT1).k0.cell 1
    have c10 := (unhide HT1).k1.cell 0
    have c11 := (unhide HT1).k1.cell 1
    have f00 := (unhide HT1).k0.frozen 0
    have f01 := (unhide HT1).k0.frozen 1
    have f10 := (unhide HT1).k1.frozen 0
    have f11 := (unhide HT1).k1.frozen 1
    simp only [zTok, List.getElem?_toArray, List.getElem?_cons_succ, List.getElem?_cons_zero] at c00 c01 c10 c11
    clear b1
    go_wp2
    (try simp only [Exit.inBlock, Exit.then])
    refine bodyPost_ret (v := .tuple #[.agg #[.int .u8 3, .string ⟨#[40]⟩], .int .i64 1]) ?_ rfl ⟨⟨_, rfl, by rw [unhide HF]; rfl⟩, ?_⟩
    · rw [results_cell_tmp rfl]
      go_simp
    · exact below2 (below2 (unhide HT1).bel (Nat.le_succ _) _ _) (Nat.le_refl _) _ _
  have e40 : ((s[0].toNat : Int) == 40) = false := by
      rw [beq_eq_false_iff_ne]; intro h
      exact c40 (UInt8.toNat_inj.1 (by have : (40 : UInt8).toNat = 40 := rfl; omega))
  by_cases c41 : s[0] = 41
  · have HF : Hid (tokA s.data.toList = some ((4, [41]), 1)) := hide (by rw [hl]; simp only [tokA]; rw [if_neg c40]; rw [if_pos c41])
    have e41 : ((s[0].toNat : Int) == 41) = true := by rw [c41]; rfl
    have HC := hide (fun W => lclone_any ⟨#[41]⟩ W (by decide))
    clear hl hh c41 c40
    go_enter Tryz.func24, Tryz.ntmps24
    go_upto_region 7 with (fail)
    have HT := HT0
    rw [show (World.alloc (World.alloc w (.cells #[.int .u8 0, .string ⟨#[]⟩] 41)) (.cells #[.int .u8 0, .string ⟨#[]⟩] 41)) = (w.alloc (.cells zTok 41)).alloc (.cells zTok 41) from rfl]
    generalize (w.alloc (.cells zTok 41)).alloc (.cells zTok 41) = W at HT HT0 ⊢
    have c00 := (unhide HT).k0.cell 0
    have c01 := (unhide HT).k0.cell 1
    have c10 := (unhide HT).k1.cell 0
    have c11 := (unhide HT).k1.cell 1
    have f00 := (unhide HT).k0.frozen 0
    have f01 := (unhide HT).k0.frozen 1
    have f10 := (unhide HT).k1.frozen 0
    have f11 := (unhide HT).k1.frozen 1
    simp only [zTok, List.getElem?_toArray, List.getElem?_cons_succ, List.getElem?_cons_zero] at c00 c01 c10 c11
    go_wp2_with fail
    refine (unhide HC _).mono ?_
    rintro e w1 ⟨rfl, b1⟩
    have HT1 := hide ((unhide HT).below b1)
    have c00 := (unhide HT1).k0.cell 0
    have c01 := (unhide HT1).k0.cell 1
    have c10 := (unhide HT1).k1.cell 0
    have c11 := (unhide HT1).k1.cell 1
    have f00 := (unhide HT1).k0.frozen 0
    have f01 := (unhide HT1).k0.frozen 1
    have f10 := (unhide HT1).k1.frozen 0
    have f11 := (unhide HT1).k1.frozen 1
    simp only [zTok, List.getElem?_toArray, List.getElem?_cons_succ, List.getElem?_cons_zero] at c00 c01 c10 c11
    clear b1
    go_wp2
    (try simp only [Exit.inBlock, Exit.then])
    refine bodyPost_ret (v := .tuple #[.agg #[.int .u8 4, .string ⟨#[41]⟩], .int .i64 1]) ?_ rfl ⟨⟨_, rfl, by rw [unhide HF]; rfl⟩, ?_⟩
    · rw [results_cell_tmp rfl]
      go_simp
    · exact below2 (below2 (unhide HT1).bel (Nat.le_succ _) _ _) (Nat.le_refl _) _ _
  have e41 : ((s[0].toNat : Int) == 41) = false := by
      rw [beq_eq_false_iff_ne]; intro h
      exact c41 (UInt8.toNat_inj.1 (by have : (41 : UInt8).toNat = 41 := rfl; omega))
  by_cases c34 : s[0] = 34
  · have HF : Hid (tokA s.data.toList = (quoA (s.data.toList.drop 1)).map fun p => ((2, p.1), p.2 + 1)) := hide (by
      conv => lhs; rw [hl]
      simp only [tokA]; rw [if_neg c40]; rw [if_neg c41]; rw [if_pos c34])
    have e34 : ((s[0].toNat : Int) == 34) = true := by rw [c34]; rfl
    have HC := hide (fun W => quoted_any s W h1 hs)
    generalize quoA (s.data.toList.drop 1) = o at HC HF
    clear hl hh c34 c40 c41
    cases o with
    | none =>
      simp only [quoV] at HC
      go_enter Tryz.func24, Tryz.ntmps24
      go_upto_region 7 with (fail)
      have HT := HT0
      rw [show (World.alloc (World.alloc w (.cells #[.int .u8 0, .string ⟨#[]⟩] 41)) (.cells #[.int .u8 0, .string ⟨#[]⟩] 41)) = (w.alloc (.cells zTok 41)).alloc (.cells zTok 41) from rfl]
      generalize (w.alloc (.cells zTok 41)).alloc (.cells zTok 41) = W at HT HT0 ⊢
      have c00 := (unhide HT).k0.cell 0
      have c01 := (unhide HT).k0.cell 1
      have c10 := (unhide HT).k1.cell 0
      have c11 := (unhide HT).k1.cell 1
      have f00 := (unhide HT).k0.frozen 0
      have f01 := (unhide HT).k0.frozen 1
      have f10 := (unhide HT).k1.frozen 0
      have f11 := (unhide HT).k1.frozen 1
      simp only [zTok, List.getElem?_toArray, List.getElem?_cons_succ, List.getElem?_cons_zero] at c00 c01 c10 c11
      go_upto_region 13 with (fail)
      have HT2 := hide ((unhide HT).kind 2)
      generalize W.setCell ⟨w.heap.size + 1, 0, none⟩ (.int .u8 2) = W2 at HT2 ⊢
      clear c00 c01 c10 c11 f00 f01 f10 f11
      have c00 := (unhide HT2).k0.cell 0
      have c01 := (unhide HT2).k0.cell 1
      have c10 := (unhide HT2).k1.cell 0
      have c11 := (unhide HT2).k1.cell 1
      have f00 := (unhide HT2).k0.frozen 0
      have f01 := (unhide HT2).k0.frozen 1
      have f10 := (unhide HT2).k1.frozen 0
      have f11 := (unhide HT2).k1.frozen 1
      simp only [zTok, List.getElem?_toArray, List.getElem?_cons_succ, List.getElem?_cons_zero] at c00 c01 c10 c11
      go_wp2_with fail
      refine (unhide HC _).mono ?_
      rintro e w1 ⟨rfl, b1⟩
      have HT1 := hide ((unhide HT2).below b1)
      have c00 := (unhide HT1).k0.cell 0
      have c01 := (unhide HT1).k0.cell 1
      have c10 := (unhide HT1).k1.cell 0
      have c11 := (unhide HT1).k1.cell 1
      have f00 := (unhide HT1).k0.frozen 0
      have f01 := (unhide HT1).k0.frozen 1
      have f10 := (unhide HT1).k1.frozen 0
      have f11 := (unhide HT1).k1.frozen 1
      simp only [zTok, List.getElem?_toArray, List.getElem?_cons_succ, List.getElem?_cons_zero] at c00 c01 c10 c11
      clear b1
      go_wp2
      (try simp only [Exit.inBlock, Exit.then])
      refine bodyPost_ret (v := .tuple #[.agg #[.int .u8 2, .string ⟨#[]⟩], .int .i64 0]) ?_ rfl ⟨⟨_, rfl, by rw [unhide HF]; exact ⟨_, _, rfl⟩⟩, ?_⟩
      · rw [results_cell_tmp rfl]
        go_simp
      · exact below2 ((unhide HT1).bel.setCell (p := ⟨w.heap.size + 1, 1, none⟩) (Nat.le_succ _) _) (Nat.le_refl _) _ _

    | some p =>
      obtain ⟨x, z⟩ := p
      simp only [quoV] at HC
      go_enter Tryz.func24, Tryz.ntmps24
      go_upto_region 7 with (fail)
      have HT := HT0
      rw [show (World.alloc (World.alloc w (.cells #[.int .u8 0, .string ⟨#[]⟩] 41)) (.cells #[.int .u8 0, .string ⟨#[]⟩] 41)) = (w.alloc (.cells zTok 41)).alloc (.cells zTok 41) from rfl]
      generalize (w.alloc (.cells zTok 41)).alloc (.cells zTok 41) = W at HT HT0 ⊢
      have c00 := (unhide HT).k0.cell 0
      have c01 := (unhide HT).k0.cell 1
      have c10 := (unhide HT).k1.cell 0
      have c11 := (unhide HT).k1.cell 1
      have f00 := (unhide HT).k0.frozen 0
      have f01 := (unhide HT).k0.frozen 1
      have f10 := (unhide HT).k1.frozen 0
      have f11 := (unhide HT).k1.frozen 1
      simp only [zTok, List.getElem?_toArray, List.getElem?_cons_succ, List.getElem?_cons_zero] at c00 c01 c10 c11
      go_upto_region 13 with (fail)
      have HT2 := hide ((unhide HT).kind 2)
      generalize W.setCell ⟨w.heap.size + 1, 0, none⟩ (.int .u8 2) = W2 at HT2 ⊢
      clear c00 c01 c10 c11 f00 f01 f10 f11
      have c00 := (unhide HT2).k0.cell 0
      have c01 := (unhide HT2).k0.cell 1
      have c10 := (unhide HT2).k1.cell 0
      have c11 := (unhide HT2).k1.cell 1
      have f00 := (unhide HT2).k0.frozen 0
      have f01 := (unhide HT2).k0.frozen 1
      have f10 := (unhide HT2).k1.frozen 0
      have f11 := (unhide HT2).k1.frozen 1
      simp only [zTok, List.getElem?_toArray, List.getElem?_cons_succ, List.getElem?_cons_zero] at c00 c01 c10 c11
      go_wp2_with fail
      refine (unhide HC _).mono ?_
      rintro e w1 ⟨rfl, b1⟩
      have HT1 := hide ((unhide HT2).below b1)
      have c00 := (unhide HT1).k0.cell 0
      have c01 := (unhide HT1).k0.cell 1
      have c10 := (unhide HT1).k1.cell 0
      have c11 := (unhide HT1).k1.cell 1
      have f00 := (unhide HT1).k0.frozen 0
      have f01 := (unhide HT1).k0.frozen 1
      have f10 := (unhide HT1).k1.frozen 0
      have f11 := (unhide HT1).k1.frozen 1
      simp only [zTok, List.getElem?_toArray, List.getElem?_cons_succ, List.getElem?_cons_zero] at c00 c01 c10 c11
      clear b1
      go_wp2
      (try simp only [Exit.inBlock, Exit.then])
      refine bodyPost_ret (v := .tuple #[.agg #[.int .u8 2, .string (bts x)], .int .i64 ((z + 1 : Nat) : Int)]) ?_ rfl ⟨⟨_, rfl, by rw [unhide HF]; rfl⟩, ?_⟩
      · rw [results_cell_tmp rfl]
        go_simp
      · exact below2 ((unhide HT1).bel.setCell (p := ⟨w.heap.size + 1, 1, none⟩) (Nat.le_succ _) _) (Nat.le_refl _) _ _
  have e34 : ((s[0].toNat : Int) == 34) = false := by
      rw [beq_eq_false_iff_ne]; intro h
      exact c34 (UInt8.toNat_inj.1 (by have : (34 : UInt8).toNat = 34 := rfl; omega))
  by_cases c123 : s[0] = 123
  · have HF : Hid (tokA s.data.toList = (litA s.data.toList).map fun p => ((2, p.1), p.2)) := hide (by
      conv => lhs; rw [hl]
      simp only [tokA]; rw [if_neg c40]; rw [if_neg c41]; rw [if_neg c34]; rw [if_pos c123]; rw [← hl])
    have e123 : ((s[0].toNat : Int) == 123) = true := by rw [c123]; rfl
    have HC := hide (fun W => literal_any s W (by rw [hh, c123]) hs)
    generalize litA s.data.toList = o at HC HF
    clear hl hh c123 c40 c41 c34
    cases o with
    | none =>
      simp only [litV] at HC
      go_enter Tryz.func24, Tryz.ntmps24
      go_upto_region 7 with (fail)
      have HT := HT0
      rw [show (World.alloc (World.alloc w (.cells #[.int .u8 0, .string ⟨#[]⟩] 41)) (.cells #[.int .u8 0, .string ⟨#[]⟩] 41)) = (w.alloc (.cells zTok 41)).alloc (.cells zTok 41) from rfl]
      generalize (w.alloc (.cells zTok 41)).alloc (.cells zTok 41) = W at HT HT0 ⊢
      have c00 := (unhide HT).k0.cell 0
      have c01 := (unhide HT).k0.cell 1
      have c10 := (unhide HT).k1.cell 0
      have c11 := (unhide HT).k1.cell 1
      have f00 := (unhide HT).k0.frozen 0
      have f01 := (unhide HT).k0.frozen 1
      have f10 := (unhide HT).k1.frozen 0
      have f11 := (unhide HT).k1.frozen 1
      simp only [zTok, List.getElem?_toArray, List.getElem?_cons_succ, List.getElem?_cons_zero] at c00 c01 c10 c11
      go_upto_region 16 with (fail)
      have HT2 := hide ((unhide HT).kind 2)
      generalize W.setCell ⟨w.heap.size + 1, 0, none⟩ (.int .u8 2) = W2 at HT2 ⊢
      clear c00 c01 c10 c11 f00 f01 f10 f11
      have c00 := (unhide HT2).k0.cell 0
      have c01 := (unhide HT2).k0.cell 1
      have c10 := (unhide HT2).k1.cell 0
      have c11 := (unhide HT2).k1.cell 1
      have f00 := (unhide HT2).k0.frozen 0
      have f01 := (unhide HT2).k0.frozen 1
      have f10 := (unhide HT2).k1.frozen 0
      have f11 := (unhide HT2).k1.frozen 1
      simp only [zTok, List.getElem?_toArray, List.getElem?_cons_succ, List.getElem?_cons_zero] at c00 c01 c10 c11
      go_wp2_with fail
      refine (unhide HC _).mono ?_
      rintro e w1 ⟨rfl, b1⟩
      have HT1 := hide ((unhide HT2).below b1)
      have c00 := (unhide HT1).k0.cell 0
      have c01 := (unhide HT1).k0.cell 1
      have c10 := (unhide HT1).k1.cell 0
      have c11 := (unhide HT1).k1.cell 1
      have f00 := (unhide HT1).k0.frozen 0
      have f01 := (unhide HT1).k0.frozen 1
      have f10 := (unhide HT1).k1.frozen 0
      have f11 := (unhide HT1).k1.frozen 1
      simp only [zTok, List.getElem?_toArray, List.getElem?_cons_succ, List.getElem?_cons_zero] at c00 c01 c10 c11
      clear b1
      go_wp2
      (try simp only [Exit.inBlock, Exit.then])
      refine bodyPost_ret (v := .tuple #[.agg #[.int .u8 2, .string ⟨#[]⟩], .int .i64 0]) ?_ rfl ⟨⟨_, rfl, by rw [unhide HF]; exact ⟨_, _, rfl⟩⟩, ?_⟩
      · rw [results_cell_tmp rfl]
        go_simp
      · exact below2 ((unhide HT1).bel.setCell (p := ⟨w.heap.size + 1, 1, none⟩) (Nat.le_succ _) _) (Nat.le_refl _) _ _

    | some p =>
      obtain ⟨x, z⟩ := p
      simp only [litV] at HC
      go_enter Tryz.func24, Tryz.ntmps24
      go_upto_region 7 with (fail)
      have HT := HT0
      rw [show (World.alloc (World.alloc w (.cells #[.int .u8 0, .string ⟨#[]⟩] 41)) (.cells #[.int .u8 0, .string ⟨#[]⟩] 41)) = (w.alloc (.cells zTok 41)).alloc (.cells zTok 41) from rfl]
      generalize (w.alloc (.cells zTok 41)).alloc (.cells zTok 41) = W at HT HT0 ⊢
      have c00 := (unhide HT).k0.cell 0
      have c01 := (unhide HT).k0.cell 1
      have c10 := (unhide HT).k1.cell 0
      have c11 := (unhide HT).k1.cell 1
      have f00 := (unhide HT).k0.frozen 0
      have f01 := (unhide HT).k0.frozen 1
      have f10 := (unhide HT).k1.frozen 0
      have f11 := (unhide HT).k1.frozen 1
      simp only [zTok, List.getElem?_toArray, List.getElem?_cons_succ, List.getElem?_cons_zero] at c00 c01 c10 c11
      go_upto_region 16 with (fail)
      have HT2 := hide ((unhide HT).kind 2)
      generalize W.setCell ⟨w.heap.size + 1, 0, none⟩ (.int .u8 2) = W2 at HT2 ⊢
      clear c00 c01 c10 c11 f00 f01 f10 f11
      have c00 := (unhide HT2).k0.cell 0
      have c01 := (unhide HT2).k0.cell 1
      have c10 := (unhide HT2).k1.cell 0
      have c11 := (unhide HT2).k1.cell 1
      have f00 := (unhide HT2).k0.frozen 0
      have f01 := (unhide HT2).k0.frozen 1
      have f10 := (unhide HT2).k1.frozen 0
      have f11 := (unhide HT2).k1.frozen 1
      simp only [zTok, List.getElem?_toArray, List.getElem?_cons_succ, List.getElem?_cons_zero] at c00 c01 c10 c11
      go_wp2_with fail
      refine (unhide HC _).mono ?_
      rintro e w1 ⟨rfl, b1⟩
      have HT1 := hide ((unhide HT2).below b1)
      have c00 := (unhide HT1).k0.cell 0
      have c01 := (unhide HT1).k0.cell 1
      have c10 := (unhide HT1).k1.cell 0
      have c11 := (unhide HT1).k1.cell 1
      have f00 := (unhide HT1).k0.frozen 0
      have f01 := (unhide HT1).k0.frozen 1
      have f10 := (unhide HT1).k1.frozen 0
      have f11 := (unhide HT1).k1.frozen 1
      simp only [zTok, List.getElem?_toArray, List.getElem?_cons_succ, List.getElem?_cons_zero] at c00 c01 c10 c11
      clear b1
      go_wp2
      (try simp only [Exit.inBlock, Exit.then])
      refine bodyPost_ret (v := .tuple #[.agg #[.int .u8 2, .string (bts x)], .int .i64 (z : Int)]) ?_ rfl ⟨⟨_, rfl, by rw [unhide HF]; rfl⟩, ?_⟩
      · rw [results_cell_tmp rfl]
        go_simp
      · exact below2 ((unhide HT1).bel.setCell (p := ⟨w.heap.size + 1, 1, none⟩) (Nat.le_succ _) _) (Nat.le_refl _) _ _
  have e123 : ((s[0].toNat : Int) == 123) = false := by
      rw [beq_eq_false_iff_ne]; intro h
      exact c123 (UInt8.toNat_inj.1 (by have : (123 : UInt8).toNat = 123 := rfl; omega))
  have HF : Hid (FirV (tokA s.data.toList) (.tuple #[.agg #[.int .u8 1, .string (s.extract 0 (atomL s.data.toList))], .int .i64 (atomL s.data.toList : Int)])) := hide (by
    have e1 : tokA s.data.toList = if atomL s.data.toList = 0 then none else some ((1, s.data.toList.take (atomL s.data.toList)), atomL s.data.toList) := by
      conv => lhs; rw [hl]
      simp only [tokA]; rw [if_neg c40]; rw [if_neg c41]; rw [if_neg c34]; rw [if_neg c123]; rw [← hl]
    rw [e1]
    by_cases h0 : atomL s.data.toList = 0
    · rw [if_pos h0, h0]; exact ⟨_, _, rfl⟩
    · rw [if_neg h0]
      show _ = Value.tuple #[tkV (1, s.data.toList.take (atomL s.data.toList)), _]
      rw [tkV, show s.extract 0 (atomL s.data.toList) = bts (s.data.toList.take (atomL s.data.toList)) from ext_list (by rw [toList_bts, toList_upto])]
      rfl)
  have HA := hide (fun W => atom_any s W (by omega))
  have hle : atomL s.data.toList ≤ s.size := by have := atomL_len s.data.toList; rw [sizeL] at this; exact this
  generalize atomL s.data.toList = n at HA HF hle
  have HC := hide (fun W => lclone_any (s.extract 0 n) W (by rw [ByteArray.size_extract]; omega))
  clear hl hh c40 c41 c34 c123
  go_enter Tryz.func24, Tryz.ntmps24
  go_upto_region 7 with (fail)
  have HT := HT0
  rw [show (World.alloc (World.alloc w (.cells #[.int .u8 0, .string ⟨#[]⟩] 41)) (.cells #[.int .u8 0, .string ⟨#[]⟩] 41)) = (w.alloc (.cells zTok 41)).alloc (.cells zTok 41) from rfl]
  generalize (w.alloc (.cells zTok 41)).alloc (.cells zTok 41) = W at HT HT0 ⊢
  have c00 := (unhide HT).k0.cell 0
  have c01 := (unhide HT).k0.cell 1
  have c10 := (unhide HT).k1.cell 0
  have c11 := (unhide HT).k1.cell 1
  have f00 := (unhide HT).k0.frozen 0
  have f01 := (unhide HT).k0.frozen 1
  have f10 := (unhide HT).k1.frozen 0
  have f11 := (unhide HT).k1.frozen 1
  simp only [zTok, List.getElem?_toArray, List.getElem?_cons_succ, List.getElem?_cons_zero] at c00 c01 c10 c11
  go_upto_region 5 with (fail)
  have HT2 := hide ((unhide HT).kind 1)
  generalize W.setCell ⟨w.heap.size + 1, 0, none⟩ (.int .u8 1) = W2 at HT2 ⊢
  clear c00 c01 c10 c11 f00 f01 f10 f11
  go_wp2_with fail
  refine (unhide HA _).mono ?_
  rintro e w3 ⟨rfl, h3⟩
  subst h3
  go_wp2_with fail
  refine (unhide HC _).mono ?_
  rintro e w1 ⟨rfl, b1⟩
  have HT1 := hide ((unhide HT2).below b1)
  have c00 := (unhide HT1).k0.cell 0
  have c01 := (unhide HT1).k0.cell 1
  have c10 := (unhide HT1).k1.cell 0
  have c11 := (unhide HT1).k1.cell 1
  have f00 := (unhide HT1).k0.frozen 0
  have f01 := (unhide HT1).k0.frozen 1
  have f10 := (unhide HT1).k1.frozen 0
  have f11 := (unhide HT1).k1.frozen 1
  simp only [zTok, List.getElem?_toArray, List.getElem?_cons_succ, List.getElem?_cons_zero] at c00 c01 c10 c11
  clear b1
  go_wp2
  (try simp only [Exit.inBlock, Exit.then])
  refine bodyPost_ret (v := .tuple #[.agg #[.int .u8 1, .string (s.extract 0 n)], .int .i64 (n : Int)]) ?_ rfl ⟨⟨_, rfl, unhide HF⟩, ?_⟩
  · rw [results_cell_tmp rfl]
    go_simp
  · exact below2 ((unhide HT1).bel.setCell (p := ⟨w.heap.size + 1, 1, none⟩) (Nat.le_succ _) _) (Nat.le_refl _) _ _
end Go.Proofs.YtihgmpebpkjmkaaGreatDoor

/-
  What lex.Quote does, over this seat's program.
-/
set_option linter.unusedVariables false
namespace Go.Proofs.YtihgmpebpkjmkaaGreatDoor
open Go.RowKit Go.Proofs.Lx

/-- What is quoted, or the error, as Go tells it. -/
def quoR (o : Option (List UInt8)) : Value := match o with
  | some q => .tuple #[.string (bts q), .int .i64 0]
  | none => .tuple #[.string ⟨#[]⟩, .int .i64 7]
theorem esc_take (s : ByteArray) (k : Nat) (h : k < s.size) : (s.data.toList.take (k + 1)).flatMap escL = (s.data.toList.take k).flatMap escL ++ escL s[k] := by
  rw [take_byte s k h, List.flatMap_append]; simp
theorem esc_len : ∀ l : List UInt8, (l.flatMap escL).length ≤ 2 * l.length
  | [] => by simp
  | c :: r => by
    have := esc_len r
    rw [List.flatMap_cons, List.length_append, List.length_cons]
    have : (escL c).length ≤ 2 := by unfold escL; split <;> simp
    omega
theorem isQ_take (s : ByteArray) (k : Nat) (h : k < s.size) : (s.data.toList.take (k + 1)).all isQ = ((s.data.toList.take k).all isQ && isQ s[k]) := by
  rw [take_byte s k h, List.all_append]; simp
theorem isQ_no {s : ByteArray} {k : Nat} (h : k < s.size) (hq : isQ s[k] = false) : quoteL s.data.toList = none := by
  unfold quoteL
  rw [if_neg]
  intro ha
  have hm : s[k] ∈ s.data.toList := by
    have := drop_byte s k h
    exact List.mem_of_mem_drop (by rw [this]; exact List.mem_cons_self)
  have := List.all_eq_true.1 ha _ hm
  rw [hq] at this; cases this
theorem isQ_all {s : ByteArray} (h : (s.data.toList.take s.size).all isQ = true) : quoteL s.data.toList = some (34 :: ((s.data.toList.take s.size).flatMap escL ++ [34])) := by
  rw [List.take_of_length_le (by rw [sizeL]; omega)] at *
  rw [quoteL, if_pos h]

end Go.Proofs.YtihgmpebpkjmkaaGreatDoor
