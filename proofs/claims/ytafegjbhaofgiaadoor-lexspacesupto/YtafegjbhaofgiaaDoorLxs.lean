/-
  What missivelaw28.LexSpaces does, over this seat's program.
-/
import Derived.Test.YtafegjbhaofgiaaDoorLxr
set_option linter.unusedVariables false
set_option linter.unusedSimpArgs false
namespace Go.Proofs.YtafegjbhaofgiaaDoor
open Go.RowKit Go.Proofs.Lx

theorem gapped_snoc (g : Nat) : ∀ (xs : List (List UInt8)) (x : List UInt8), gapped g (xs ++ [x]) = gapped g xs ++ (x ++ 32 :: List.replicate g 32)
  | [], x => by simp [gapped, List.replicate_succ]
  | y :: r, x => by simp [gapped, gapped_snoc g r x, List.replicate_succ]
theorem writeL_one (t : Tok) : writeL [t] = textA t := by
  unfold writeL
  rw [if_neg (by simp), writeA]
  cases textA t with
  | none => rfl
  | some x => simp [writeA]
theorem rowT_lit (W : World) (t : Tok) (ht : FitT t) : RowT (W.alloc (.cells #[.int .u8 (t.1 : Int), .string (bts t.2)] 39)) (.slice (some ⟨W.heap.size, 0, none⟩) 1 1) [t] := by
  have hx : (W.alloc (.cells (tkC t).toArray 39)).ownsRow W.heap.size 39 2 (.slice (some ⟨W.heap.size, 0, none⟩) 1 1) 1 (tkC t).toArray.toList := World.ownsRow_lit W (tkC t).toArray 1 (Nat.le_refl _) (by unfold maxLen; omega) rfl
  have h2 : (W.alloc (.cells (tkC t).toArray 39)).ownsRow W.heap.size 39 2 (.slice (some ⟨W.heap.size, 0, none⟩) 1 1) [t].length (flatG tkC [t]) := by rw [flatG_one]; exact hx
  exact rowG_of_own tkC_len h2 (by simp) (by simpa using ht)
/-- What is put together of the first k tokens. -/
def SpI (g : Nat) (l : List Tok) (k : Nat) (S : ByteArray) : Prop := ∃ xs : List (List UInt8), (l.take k).map textA = xs.map some ∧ S.data.toList = List.replicate g 32 ++ gapped g xs ∧ S.size ≤ 4 + 5 * wMost (l.take k)
theorem SpI.next {g k : Nat} {l : List Tok} {S O G : ByteArray} {x : List UInt8} (h : SpI g l k S) (hk : k < l.length) (hg : g ≤ 4) (hx : textA l[k] = some x) (hO : O.data.toList = x) (hG : G.data.toList = List.replicate g 32) : SpI g l (k + 1) (S ++ (O ++ ⟨#[32]⟩ ++ G)) := by
  obtain ⟨xs, h1, h2, h3⟩ := h
  refine ⟨xs ++ [x], ?_, ?_, ?_⟩
  · rw [List.take_succ_eq_append_getElem hk, List.map_append, h1, List.map_append]; simp [hx]
  · simp only [ByteArray.data_append, Array.toList_append]
    rw [h2, hO, hG, gapped_snoc]
    simp [List.append_assoc]
  · have h4 := textA_len hx
    have h5 := wMost_take hk
    have h6 : O.size = x.length := by rw [← sizeL, hO]
    have h7 : G.size = g := by rw [← sizeL, hG]; simp
    simp only [ByteArray.size_append]
    have h8 : (ByteArray.mk #[32]).size = 1 := rfl
    omega

set_option maxHeartbeats 2000000 in
set_option maxRecDepth 100000 in
theorem lexSpaces_walk (v : Value) (l : List Tok) (n : Nat) (w : World) (hE : PowT w) (h : RowT w v l) (hn : n ≤ 255) (hs : sumT l ≤ 1048576) :
    Calls Tryd.prog 7 #[v, .int .u8 (n : Int)] w fun e w' => e = .returned (.bool true) ∧ Below w.heap.size w w' := by
  have HL := hide (livesX_any w hE)
  have HE := hide hE
  have HR := hide h
  have hmost := sumT_most l
  have HMO := hide (show wMost l ≤ 27262976 by omega)
  obtain ⟨a, cap, rfl, hl, _, _⟩ := h
  obtain ⟨N, hN⟩ : ∃ N, N = l.length := ⟨_, rfl⟩
  have hNl : N ≤ 1048576 := by rw [hN]; exact Nat.le_trans (sumT_len l) (by omega)
  rw [← hN] at HR hl ⊢
  have HNN := hide hN
  clear hE hmost hN hs
  obtain ⟨g, hg⟩ : ∃ g, g = n % 5 := ⟨_, rfl⟩
  have hg4 : g ≤ 4 := by omega
  have hm1 : (n : Int).tmod 5 = (g : Int) := by rw [Int.tmod_eq_emod_of_nonneg (by omega)]; omega
  have hm2 : (n : Int) % 5 = (g : Int) := by rw [hg]; omega
  clear hg
  go_enter Tryd.func7, Tryd.ntmps7
  go_wp2_with fail
  refine (unhide HL).mono ?_
  rintro e w1 ⟨rfl, b1⟩
  have B1 := hide b1
  have E1 := hide ((unhide HE).below b1)
  clear b1 HL
  go_wp2
  go_loop [5, 6] (fun zg zi => ∃ (i : Nat) (G : ByteArray), zg = .string G ∧ zi = .int .i64 (i : Int) ∧ i ≤ g ∧ G.size ≤ 4 ∧ Hid (G.data.toList = List.replicate i 32)) (fun _ zi => g - (intOf zi).toNat)
  case atStart => exact ⟨0, ⟨#[]⟩, rfl, rfl, Nat.zero_le _, by decide, hide rfl⟩
  case round =>
    obtain ⟨i, G, rfl, rfl, hi, hgz, HG⟩ := hrel
    by_cases hlt : i < g
    · have hlt1 : (i : Int) < (g : Int) := by omega
      have z1 : (ByteArray.mk #[32]).size = 1 := rfl
      have HG2 : Hid ((G ++ ⟨#[32]⟩).data.toList = List.replicate (i + 1) 32) := hide (by
        rw [ByteArray.data_append, Array.toList_append, unhide HG, List.replicate_succ'])
      have HGZ : Hid ((G ++ ⟨#[32]⟩ : ByteArray).size ≤ 4) := hide (by
        have := unhide HG2
        rw [← sizeL, this, List.length_replicate]; omega)
      clear HG
      go_wp2
      go_round
      case rel => exact ⟨i + 1, _, rfl, by go_num, by omega, unhide HGZ, HG2⟩
      case measure => simp [intOf]; omega
    · have hlt1 : ¬ (i : Int) < (g : Int) := by omega
      obtain rfl : i = g := by omega
      clear hlt hm1
      go_wp2
      go_loopw [7, 8, 9, 10, 11, 28] (fun zs _ _ _ _ z wr => ∃ (k : Nat) (S : ByteArray), zs = .string S ∧ z = .int .i64 (k : Int) ∧ k ≤ N ∧ k ≤ 200 ∧ S.size ≤ 136314900 ∧ Hid (SpI i l k S) ∧ Hid (Below w.heap.size w wr)) (fun _ _ _ _ _ z _ => N - (intOf z).toNat)
      case atStart => exact ⟨0, G, rfl, rfl, Nat.zero_le _, by omega, by omega, hide ⟨[], by simp, by rw [unhide HG]; simp [gapped], by omega⟩, B1⟩
      case round =>
        obtain ⟨k, S, rfl, rfl, hk, hk2, hsz, HI, HB⟩ := hrel
        by_cases hkn : k < N
        · have hkn1 : (k : Int) < (N : Int) := by omega
          have hkl : k < l.length := by rw [← unhide HNN]; exact hkn
          obtain ⟨gb, off, rfl, hgb, hft, c0, c1⟩ := RowT.tok (unhide HR) (unhide HB) hkl
          obtain ⟨T, hT⟩ : ∃ T, T = l[k] := ⟨_, rfl⟩
          rw [← hT] at c0 c1 hft
          have HI1 := hide (fun x O (hx : textA T = some x) (hO : O.data.toList = x) => (unhide HI).next (O := O) (G := G) (x := x) hkl hg4 (by rw [← hT]; exact hx) hO (unhide HG))
          have hmT : 2 * T.2.length + 24 ≤ 27262976 := by
            have h1 := wMost_take hkl
            have h2 := wMost_le (l := l) (k + 1)
            have h3 := unhide HMO
            rw [← hT] at h1
            omega
          have HX := hide (fun x (hx : textA T = some x) => textA_len hx)
          have hb1 := (Below.refl wr.heap.size wr).alloc (Nat.le_refl _) (Obj.cells #[.int .u8 (T.1 : Int), .string (bts T.2)] 39)
          have hr1 := rowT_lit (wr.alloc (.cells #[.int .u8 (T.1 : Int), .string (bts T.2)] 39)) T hft
          simp only [World.size_alloc] at hr1
          have hb2 := (Below.refl (wr.alloc (Obj.cells #[.int .u8 (T.1 : Int), .string (bts T.2)] 39)).heap.size (wr.alloc (Obj.cells #[.int .u8 (T.1 : Int), .string (bts T.2)] 39))).alloc (Nat.le_refl _) (Obj.cells #[.int .u8 (T.1 : Int), .string (bts T.2)] 39)
          have hb3 := hb1.trans (hb2.mono hb1.size)
          have HB3 := hide ((unhide HB).trans (hb3.mono (unhide HB).size))
          have hwr := write_any _ [T] _ ((unhide HE).below (unhide HB3)) hr1 (by simp [wMost]; omega)
          rw [writeL_one] at hwr
          have HWR := hide hwr
          have HLE : Hid (∀ S', SpI i l (k + 1) S' → S'.size ≤ 136314900) := hide (fun S' hS => by
            obtain ⟨_, _, _, h⟩ := hS
            have h2 := wMost_le (l := l) (k + 1)
            have h3 := unhide HMO
            omega)
          clear hwr hr1 hb1 hb2 hb3 hT hft HI
          obtain ⟨tk, tx⟩ := T
          simp only at *
          generalize textA (tk, tx) = o at HWR HI1 HX
          cases o with
          | none =>
            simp only [wrR] at HWR
            clear HI1 HX HLE
            go_wp2_with fail
            refine (unhide HWR).mono ?_
            rintro e w4 ⟨rfl, b4⟩
            have HB4 := hide ((unhide HB3).trans (b4.mono (unhide HB3).size))
            clear b4
            go_wp2
            go_ret
            exact ⟨rfl, unhide HB4⟩
          | some x =>
            simp only [wrR] at HWR
            obtain ⟨O, hO⟩ : ∃ O, O = bts x := ⟨_, rfl⟩
            have hOz : O.size ≤ 27262976 := by have := unhide HX x rfl; rw [hO, size_bts]; omega
            have HI2 := hide (unhide HI1 x O rfl (by rw [hO, toList_bts]))
            rw [← hO] at HWR
            clear hO HI1 HX
            have z1 : (ByteArray.mk #[32]).size = 1 := rfl
            by_cases h200 : k = 200
            · have e200 : ((k : Int) == 200) = true := by rw [h200]; rfl
              clear h200 HI2
              go_wp2_with fail
              refine (unhide HWR).mono ?_
              rintro e w4 ⟨rfl, b4⟩
              have HB4 := hide ((unhide HB3).trans (b4.mono (unhide HB3).size))
              clear b4
              go_wp2
              go_ret
              exact ⟨rfl, unhide HB4⟩
            · have e200 : ((k : Int) == 200) = false := by rw [beq_eq_false_iff_ne]; omega
              have HSZ := hide (unhide HLE _ (unhide HI2))
              clear HLE
              go_wp2_with fail
              refine (unhide HWR).mono ?_
              rintro e w4 ⟨rfl, b4⟩
              have HB4 := hide ((unhide HB3).trans (b4.mono (unhide HB3).size))
              clear b4
              go_wp2
              exact ⟨⟨k + 1, _, rfl, by go_num, by omega, by omega, unhide HSZ, HI2, HB4⟩, by simp [intOf]; omega⟩
        · have hkn1 : ¬ (k : Int) < (N : Int) := by omega
          have htl : tokensL S.data.toList = (l, 0) := by
            obtain ⟨xs, h1, h2, _⟩ := unhide HI
            have hN := unhide HNN
            rw [List.take_of_length_le (by omega)] at h1
            rw [h2]
            exact tokens_gap i l xs h1 (by omega)
          have HT := hide (fun W => tokens_any S W (by omega))
          rw [htl] at HT
          have HR1 := hide ((unhide HR).below (unhide HB))
          clear htl HI
          go_wp2_with fail
          refine (unhide HT _).mono ?_
          rintro e w4 ⟨⟨v4, rfl, hv4⟩, b4⟩
          have HSM := hide (sameT_any v4 _ l l _ hv4.row ((unhide HR1).below b4))
          rw [decide_eq_true rfl] at HSM
          have HB4 := hide ((unhide HB).trans (b4.mono (unhide HB).size))
          clear hv4 b4 HT HR1
          go_wp2_with fail
          refine (unhide HSM).mono ?_
          rintro e w5 ⟨rfl, b5⟩
          have HB5 := hide ((unhide HB4).trans (b5.mono (unhide HB4).size))
          clear b5 HSM
          go_wp2
          go_ret
          exact ⟨rfl, unhide HB5⟩
end Go.Proofs.YtafegjbhaofgiaaDoor
