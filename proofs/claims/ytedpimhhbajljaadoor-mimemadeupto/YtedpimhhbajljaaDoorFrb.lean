/-
  What enc.FromBase64 and enc.Strict do, over this seat's program: what bytes in base64 say, and how many are counted.
-/
import Derived.Test.YtedpimhhbajljaaDoorLtn
set_option linter.unusedVariables false
namespace Go.Proofs.YtedpimhhbajljaaDoor
open Go.RowKit Go.Proofs.Enc

theorem orN (b n : Nat) (hb : b < 4294967296) (hn : n < 64) : bits .or .u32 ((b : Int) * 64 % 4294967296) (n : Int) = ((b * 64 % 4294967296 + n : Nat) : Int) := by
  rw [show ((b : Int) * 64 % 4294967296) = ((b * 64 % 4294967296 : Nat) : Int) by omega]
  refine (u32_or_nat _ _ (by omega) (by omega)).trans ?_
  rw [nat_join 6 (b * 64 % 4294967296) n (by omega) (by omega)]

/-- What the frame of FromBase64 holds at its label, k bytes read. -/
def FrbJ (s : ByteArray) (w : World) (a' : Act) (w' : World) : Prop :=
  ∃ (k b hv cnt g : Nat) (acc : List UInt8) (u10 u11 u12 u13 u14 u15 u16 u17 u18 u19 u20 u21 u22 u23 u24 u25 u26 u27 u28 u29 u30 u31 u32 u33 u34 u35 u36 u37 u38 u39 u40 u41 u42 u43 u44 u45 u46 u47 u48 u49 u50 u51 u52 u53 u54 u55 u56 u57 u58 : Value), a' = { tmps := #[.string s, undef, .string ⟨#[]⟩, .int .i64 0, .pointer (some ⟨w.heap.size, 0, none⟩), .pointer (some ⟨g, 0, none⟩), .int .u32 b, .int .i64 hv, .int .i64 k, .int .i64 cnt, u10, u11, u12, u13, u14, u15, u16, u17, u18, u19, u20, u21, u22, u23, u24, u25, u26, u27, u28, u29, u30, u31, u32, u33, u34, u35, u36, u37, u38, u39, u40, u41, u42, u43, u44, u45, u46, u47, u48, u49, u50, u51, u52, u53, u54, u55, u56, u57, u58], defers := [] } ∧
    k ≤ s.size ∧ b < 4294967296 ∧ (hv = 0 ∨ hv = 2 ∨ hv = 4 ∨ hv = 6) ∧ cnt ≤ k ∧ acc.length ≤ k ∧
    Hid (acc ++ (from64 hv (b % 2 ^ hv) (s.data.toList.drop k)).1 = (from64 0 0 s.data.toList).1 ∧ cnt + (from64 hv (b % 2 ^ hv) (s.data.toList.drop k)).2 = (from64 0 0 s.data.toList).2) ∧
    Hid (Blk w' g 96 (arrOf (tab3 64))) ∧ g ≠ w.heap.size ∧
    Lib.IsBuilderF 60 5 w.heap.size w.heap.size (Lib.byteCells acc) w' ∧ Below w.heap.size w w' ∧ w.heap.size + 1 ≤ w'.heap.size

set_option maxHeartbeats 1000000 in
set_option maxRecDepth 100000 in
/-- enc.FromBase64 answers what the bytes say. -/
theorem from64_any (s : ByteArray) (w : World) (hs : s.size ≤ 1099511627776) :
    Calls Tryd.prog 31 #[.string s] w fun e w' => e = .returned (.tuple #[.string (bts (from64 0 0 s.data.toList).1), .int .i64 (from64 0 0 s.data.toList).2]) ∧ Below w.heap.size w w' := by
  have hz := zero256
  go_enter Tryd.func31, Tryd.ntmps31
  go_wp2
  refine wp_scope_one 0 (FrbJ s w) (fun a' _ => s.size - (intOf (a'.tmps.getD 8 undef)).toNat) rfl ?_ ?_
  · intro hp
    go_wp2_with fail
    rw [show ((s.size : Int)) / 4 * 3 = ((s.size / 4 * 3 : Nat) : Int) by omega]
    refine (grow_new _ w (by omega)).mono ?_
    rintro e w1 ⟨rfl, h1, b1, z1⟩
    go_wp2_with fail
    refine (letterNumbers_any w1).mono ?_
    rintro e w2 ⟨rfl, b2⟩
    have z2 := b2.size
    have hst := store256 (w2.alloc (.cells zeros256 96)) w2.heap.size (fun _ => 0) (tab3 64) (by rw [← zeros_arr]; exact heap_alloc_new w2 _)
    have b3 : Below w2.heap.size w2 ((w2.alloc (.cells zeros256 96)).setRow w2.heap.size (arrOf (tab3 64))) := below_setRow ((Below.refl _ _).alloc (Nat.le_refl _) _) (Nat.le_refl _) _
    have hI := isB_below (isB_below h1 b2) b3
    have hB : Blk ((w2.alloc (.cells zeros256 96)).setRow w2.heap.size (arrOf (tab3 64))) w2.heap.size 96 (arrOf (tab3 64)) := setRow_heap _ _ _ _ _ _ (heap_alloc_new w2 _)
    have hbb := belows' (belows' b1 b2) b3
    have hz3 : w.heap.size + 1 ≤ ((w2.alloc (.cells zeros256 96)).setRow w2.heap.size (arrOf (tab3 64))).heap.size := by simp; omega
    have HZ3 := hide hz3
    have HB := hide hB
    have HI := hide hI
    have HBB := hide hbb
    clear hB hI hbb b3 h1 hz3
    go_wp2
    go_step3
    rename_i K hK
    exact hK _ _ (hp _ _ ⟨0, 0, 0, 0, w2.heap.size, [], _, _, _, _, _, _, _, _, _, _, _, _, _, _, _, _, _, _, _, _, _, _, _, _, _, _, _, _, _, _, _, _, _, _, _, _, _, _, _, _, _, _, _, _, _, _, _, _, _, rfl, Nat.zero_le _, by omega, Or.inl rfl, Nat.zero_le _, by simp, hide ⟨rfl, Nat.zero_add _⟩, HB, by omega, unhide HI, unhide HBB, unhide HZ3⟩)
  · rintro a' w' ⟨k, b, hv, cnt, g, acc, u10, u11, u12, u13, u14, u15, u16, u17, u18, u19, u20, u21, u22, u23, u24, u25, u26, u27, u28, u29, u30, u31, u32, u33, u34, u35, u36, u37, u38, u39, u40, u41, u42, u43, u44, u45, u46, u47, u48, u49, u50, u51, u52, u53, u54, u55, u56, u57, u58, rfl, hk, hb, hhv, hcnt, hacc, HE, HB, hg, hI, hbw, hz1⟩
    by_cases hend : k = s.size
    · have hbe : ((k : Int) == (s.size : Int)) = true := by simp [hend]
      have hfin : acc = (from64 0 0 s.data.toList).1 ∧ cnt = (from64 0 0 s.data.toList).2 := by
        have := unhide HE
        rw [drop_end s (by omega)] at this
        simpa [from64] using this
      have HF := hide hfin
      clear hfin hend
      go_wp2_with fail
      refine (Tryd.Builder_String_any_k w.heap.size w.heap.size acc _ hI (by omega)).mono ?_
      rintro e w2 ⟨rfl, _, hb2, _⟩
      go_wp2
      simp only [Exit.jump]
      go_ret2
      exact ⟨by rw [← (unhide HF).1, ← (unhide HF).2]; rfl, hbw.trans hb2⟩
    · have hlt : k < s.size := by omega
      have hbe : ((k : Int) == (s.size : Int)) = false := by simp; omega
      have hd := drop_byte s k hlt
      by_cases h61 : s[k].toNat = 61
      · have hb6 : ((s[k].toNat : Int) == 61) = true := by simp [h61]
        have hfin : acc = (from64 0 0 s.data.toList).1 ∧ cnt = (from64 0 0 s.data.toList).2 := by
          have := unhide HE
          rw [hd, from64, if_pos (UInt8.toNat_inj.1 h61)] at this
          simpa using this
        have HF := hide hfin
        clear hfin hend hd h61
        go_wp2_with fail
        refine (Tryd.Builder_String_any_k w.heap.size w.heap.size acc _ hI (by omega)).mono ?_
        rintro e w2 ⟨rfl, _, hb2, _⟩
        go_wp2
        simp only [Exit.jump]
        go_ret2
        exact ⟨by rw [← (unhide HF).1, ← (unhide HF).2]; rfl, hbw.trans hb2⟩
      · have hb6 : ((s[k].toNat : Int) == 61) = false := by simp; omega
        have hne : ¬ s[k] = 61 := fun e => h61 (by rw [e]; rfl)
        have hcell : w'.cell? ⟨g, s[k].toNat, none⟩ = some (.int .u8 (num64 s[k])) := by rw [(unhide HB).cell, arr_get _ s[k].toNat_lt, tab3_num]
        have hc256 : (s[k].toNat : Int) < 256 := by have := s[k].toNat_lt; omega
        have HE2 : Hid (acc ++ (from64 hv (b % 2 ^ hv) (s[k] :: s.data.toList.drop (k + 1))).1 = (from64 0 0 s.data.toList).1 ∧ cnt + (from64 hv (b % 2 ^ hv) (s[k] :: s.data.toList.drop (k + 1))).2 = (from64 0 0 s.data.toList).2) := by rw [← hd]; exact HE
        clear hd HE hend
        by_cases h65 : num64 s[k] = 65
        · have he : ((num64 s[k] : Int) == 65) = true := by simp [h65]
          have hfin := unhide HE2
          rw [from64, if_neg hne, if_pos h65] at hfin
          have HF := hide hfin
          clear hfin HE2 h65
          generalize num64 s[k] = n at hcell he
          go_wp2
          go_step3
          refine ⟨rfl, ⟨k + 1, b, hv, cnt + 1, g, acc, _, _, _, _, _, _, _, _, _, _, _, _, _, _, _, _, _, _, _, _, _, _, _, _, _, _, _, _, _, _, _, _, _, _, _, _, _, _, _, _, _, _, _, _, _, _, _, _, _, rfl, by omega, hb, hhv, by omega, by omega, hide ⟨(unhide HF).1, by have := (unhide HF).2; omega⟩, HB, hg, hI, hbw, hz1⟩, ?_⟩
          simp [intOf]
          omega
        · have he : ((num64 s[k] : Int) == 65) = false := by simp; omega
          by_cases h64 : num64 s[k] = 64
          · have he4 : ((num64 s[k] : Int) == 64) = true := by simp [h64]
            have hfin := unhide HE2
            rw [from64, if_neg hne, if_neg h65, if_pos h64] at hfin
            have HF := hide hfin
            clear hfin HE2 h65 h64
            generalize num64 s[k] = n at hcell he he4
            go_wp2
            go_step3
            refine ⟨rfl, ⟨k + 1, b, hv, cnt, g, acc, _, _, _, _, _, _, _, _, _, _, _, _, _, _, _, _, _, _, _, _, _, _, _, _, _, _, _, _, _, _, _, _, _, _, _, _, _, _, _, _, _, _, _, _, _, _, _, _, _, rfl, by omega, hb, hhv, by omega, by omega, HF, HB, hg, hI, hbw, hz1⟩, ?_⟩
            simp [intOf]
            omega
          · have he4 : ((num64 s[k] : Int) == 64) = false := by simp; omega
            have hn : num64 s[k] < 64 := by have := num_le s[k]; omega
            have hfin := unhide HE2
            rw [from64, if_neg hne, if_neg h65, if_neg h64] at hfin
            have HF := hide hfin
            obtain ⟨b2, hor, hb2, HB2⟩ : ∃ b2 : Nat, bits .or .u32 ((b : Int) * 64 % 4294967296) (num64 s[k] : Int) = (b2 : Int) ∧ b2 < 4294967296 ∧ Hid (b2 = b * 64 % 4294967296 + num64 s[k]) := ⟨_, orN b (num64 s[k]) hb hn, by omega, hide rfl⟩
            clear hfin HE2 h65 h64
            generalize num64 s[k] = n at hcell he he4 hn HF hor HB2
            rcases hhv with rfl | rfl | rfl | rfl
            · go_wp2
              go_step3
              refine ⟨rfl, ⟨k + 1, b2, 6, cnt, g, acc, _, _, _, _, _, _, _, _, _, _, _, _, _, _, _, _, _, _, _, _, _, _, _, _, _, _, _, _, _, _, _, _, _, _, _, _, _, _, _, _, _, _, _, _, _, _, _, _, _, rfl, by omega, hb2, by omega, by omega, by omega, ?_, HB, hg, hI, hbw, hz1⟩, ?_⟩
              · have h : acc ++ (from64 6 n (s.data.toList.drop (k + 1))).1 = (from64 0 0 s.data.toList).1 ∧ cnt + (from64 6 n (s.data.toList.drop (k + 1))).2 = (from64 0 0 s.data.toList).2 := unhide HF
                have e : b2 % 2 ^ 6 = n := by have := unhide HB2; omega
                rw [← e] at h
                exact hide h
              · simp [intOf]
                omega
            · have hbyte : ((b2 : Int) % 256) = ((UInt8.ofNat ((b % 2 ^ 2 * 64 + n) / 2 ^ (2 - 2))).toNat : Int) := by
                have := unhide HB2
                simp
                omega
              have HY := hide hbyte
              clear hbyte
              go_wp2_with fail
              refine (writeByte_k w.heap.size w.heap.size (Lib.byteCells acc) _ _ hI (by rw [Lib.byteCells_length]; omega) (by omega)).mono ?_
              rintro e w3 ⟨rfl, h3, b3, k3⟩
              rw [byteCells_snoc acc _ _ (unhide HY)] at h3
              have hz3 := b3.size
              have HB3 : Hid (Blk w3 g 96 (arrOf (tab3 64))) := k3 _ _ (unhide HB) (by intro e; cases e; exact hg rfl) (by intro c fz e; cases e)
              clear k3
              go_wp2
              go_step3
              refine ⟨rfl, ⟨k + 1, b2, 0, cnt, g, _, _, _, _, _, _, _, _, _, _, _, _, _, _, _, _, _, _, _, _, _, _, _, _, _, _, _, _, _, _, _, _, _, _, _, _, _, _, _, _, _, _, _, _, _, _, _, _, _, _, rfl, by omega, hb2, by omega, by omega, by simp; omega, ?_, HB3, hg, Or.inr h3, hbw.trans b3, by omega⟩, ?_⟩
              · have h := unhide HF
                rw [if_neg (by omega)] at h
                have e : b2 % 2 ^ (2 - 2) = (b % 2 ^ 2 * 64 + n) % 2 ^ (2 - 2) := by have := unhide HB2; omega
                rw [← e] at h
                exact hide ⟨by simpa using h.1, h.2⟩
              · simp [intOf]
                omega
            · have hbyte : ((b2 : Int) / 4 % 256) = ((UInt8.ofNat ((b % 2 ^ 4 * 64 + n) / 2 ^ (4 - 2))).toNat : Int) := by
                have := unhide HB2
                simp
                omega
              have HY := hide hbyte
              clear hbyte
              go_wp2_with fail
              refine (writeByte_k w.heap.size w.heap.size (Lib.byteCells acc) _ _ hI (by rw [Lib.byteCells_length]; omega) (by omega)).mono ?_
              rintro e w3 ⟨rfl, h3, b3, k3⟩
              rw [byteCells_snoc acc _ _ (unhide HY)] at h3
              have hz3 := b3.size
              have HB3 : Hid (Blk w3 g 96 (arrOf (tab3 64))) := k3 _ _ (unhide HB) (by intro e; cases e; exact hg rfl) (by intro c fz e; cases e)
              clear k3
              go_wp2
              go_step3
              refine ⟨rfl, ⟨k + 1, b2, 2, cnt, g, _, _, _, _, _, _, _, _, _, _, _, _, _, _, _, _, _, _, _, _, _, _, _, _, _, _, _, _, _, _, _, _, _, _, _, _, _, _, _, _, _, _, _, _, _, _, _, _, _, _, rfl, by omega, hb2, by omega, by omega, by simp; omega, ?_, HB3, hg, Or.inr h3, hbw.trans b3, by omega⟩, ?_⟩
              · have h := unhide HF
                rw [if_neg (by omega)] at h
                have e : b2 % 2 ^ (4 - 2) = (b % 2 ^ 4 * 64 + n) % 2 ^ (4 - 2) := by have := unhide HB2; omega
                rw [← e] at h
                exact hide ⟨by simpa using h.1, h.2⟩
              · simp [intOf]
                omega
            · have hbyte : ((b2 : Int) / 16 % 256) = ((UInt8.ofNat ((b % 2 ^ 6 * 64 + n) / 2 ^ (6 - 2))).toNat : Int) := by
                have := unhide HB2
                simp
                omega
              have HY := hide hbyte
              clear hbyte
              go_wp2_with fail
              refine (writeByte_k w.heap.size w.heap.size (Lib.byteCells acc) _ _ hI (by rw [Lib.byteCells_length]; omega) (by omega)).mono ?_
              rintro e w3 ⟨rfl, h3, b3, k3⟩
              rw [byteCells_snoc acc _ _ (unhide HY)] at h3
              have hz3 := b3.size
              have HB3 : Hid (Blk w3 g 96 (arrOf (tab3 64))) := k3 _ _ (unhide HB) (by intro e; cases e; exact hg rfl) (by intro c fz e; cases e)
              clear k3
              go_wp2
              go_step3
              refine ⟨rfl, ⟨k + 1, b2, 4, cnt, g, _, _, _, _, _, _, _, _, _, _, _, _, _, _, _, _, _, _, _, _, _, _, _, _, _, _, _, _, _, _, _, _, _, _, _, _, _, _, _, _, _, _, _, _, _, _, _, _, _, _, rfl, by omega, hb2, by omega, by omega, by simp; omega, ?_, HB3, hg, Or.inr h3, hbw.trans b3, by omega⟩, ?_⟩
              · have h := unhide HF
                rw [if_neg (by omega)] at h
                have e : b2 % 2 ^ (6 - 2) = (b % 2 ^ 6 * 64 + n) % 2 ^ (6 - 2) := by have := unhide HB2; omega
                rw [← e] at h
                exact hide ⟨by simpa using h.1, h.2⟩
              · simp [intOf]
                omega
end Go.Proofs.YtedpimhhbajljaaDoor
