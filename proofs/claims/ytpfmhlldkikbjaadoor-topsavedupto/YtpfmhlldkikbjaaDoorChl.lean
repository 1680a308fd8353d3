/-
  What disk.Check does, over this seat's program: whether a file system is right: the loop over its files.
-/
import Derived.Test.YtpfmhlldkikbjaaDoorChk
import Derived.Deep.QuietTactic
import Derived.BigQuiet
import Derived.Laws.Cover1
set_option linter.unusedVariables false
namespace Go.Proofs.YtpfmhlldkikbjaaDoor
open Go.RowKit Go.Proofs.Dsk

theorem wrap_pred (k : Nat) (h : 0 < k) (h2 : k ≤ 1024) : ∃ q, q = k - 1 ∧ IntKind.i64.wrap ((k : Int) - 1) = (q : Int) := by
  refine ⟨k - 1, rfl, ?_⟩
  rw [IntKind.wrap_i64]; omega

set_option maxHeartbeats 8000000 in
set_option maxRecDepth 100000 in
theorem check_loop (room fuse fault : Int) (down : Bool) (l : List File) (a : Option Addr) (cap : Nat) (w : World) (h1 : 0 ≤ room) (h2 : room ≤ 16777216) (h3 : l.length ≤ 1024) (h4 : -1 ≤ fuse) (h5 : -1 ≤ fault) (h6 : fuse ≤ 9223372036854775807) (h7 : fault ≤ 9223372036854775807)
    (hff : ∀ f ∈ l, Fits f) (hc : l = [] ∨ ∃ b off, a = some ⟨b, off, none⟩ ∧ b < w.heap.size ∧ ∀ j u, (flatF l)[j]? = some u → w.cell? ⟨b, off + j, none⟩ = some u) :
    Calls Tryd.prog 19 #[fsV ⟨room, l, fuse, fault, down⟩ (.slice a l.length cap)] w fun e w' => e = .returned (.int .i64 (if right ⟨room, l, fuse, fault, down⟩ then 0 else 2)) ∧ Below w.heap.size w w' := by
  have HH := hide (headOk_yes (d := ⟨room, l, fuse, fault, down⟩) |>.2 ⟨h1, h2, h3, h4, h5⟩)
  have HF := hide hff
  have HC := hide hc
  clear hff hc
  generalize hres : (if right ⟨room, l, fuse, fault, down⟩ then 0 else 2 : Int) = res
  have HR := hide hres
  clear hres
  have hb0 : Below w.heap.size w (w.alloc (.cells #[.int .i64 room, .slice a l.length cap, .int .i64 fuse, .int .i64 fault, .bool down] 31)) := (Below.refl _ w).alloc (Nat.le_refl _) _
  have hbx : (w.alloc (.cells #[.int .i64 room, .slice a l.length cap, .int .i64 fuse, .int .i64 fault, .bool down] 31)).cell? ⟨w.heap.size, 1, none⟩ = some (.slice a l.length cap) := by simp
  go_enter Tryd.func19, Tryd.ntmps19
  simp only [fsV]
  go_wp2
  generalize hW : w.alloc (.cells #[.int .i64 room, .slice a l.length cap, .int .i64 fuse, .int .i64 fault, .bool down] 31) = W at *
  have hsz : W.heap.size = w.heap.size + 1 := by rw [← hW]; simp
  clear hW
  go_loopw [3, 4, 5, 35] (fun x y y2 z wr => ∃ k : Nat, z = .int .i64 k ∧ x = .int .i64 (room - used (l.take k)) ∧ k ≤ l.length ∧ (used (l.take k) : Int) ≤ room ∧ (l.take k).all fileOk = true ∧ Rise (l.take k) ∧ Below W.heap.size W wr) (fun _ _ _ z _ => l.length - (intOf z).toNat)
  case atStart => exact ⟨0, rfl, by simp [used], Nat.zero_le _, by simpa [used] using h1, by simp, List.Pairwise.nil, Below.refl _ _⟩
  case round =>
    obtain ⟨k, rfl, rfl, hk, hus, hall, hri, hbw⟩ := hrel
    have HALL := hide hall
    have HRI := hide hri
    clear hall hri
    have hws := hbw.size
    have hbw0 : Below w.heap.size w wr := hb0.trans (hbw.mono (by omega))
    have hcb : wr.cell? ⟨w.heap.size, 1, none⟩ = some (.slice a l.length cap) := (hbw.cell (p := ⟨w.heap.size, 1, none⟩) (by simp; omega)).trans hbx
    by_cases hlt : k < l.length
    · rcases unhide HC with h0 | ⟨b, off, rfl, hb, hcl⟩
      · rw [h0] at hlt; simp at hlt
      · obtain ⟨c0, c1, c2⟩ := row_cells hcl hlt
        have x0 : wr.cell? ⟨b, off + k * 3, none⟩ = some (.string l[k].name) := (hbw0.cell (p := ⟨b, off + k * 3, none⟩) hb).trans c0
        have x1 : wr.cell? ⟨b, off + k * 3 + 1, none⟩ = some (.string l[k].data) := (hbw0.cell (p := ⟨b, off + k * 3 + 1, none⟩) hb).trans c1
        have x2 : wr.cell? ⟨b, off + k * 3 + 2, none⟩ = some (.int .i64 l[k].synced) := (hbw0.cell (p := ⟨b, off + k * 3 + 2, none⟩) hb).trans c2
        have ht1 := used_take hlt
        have ht2 := rise_take hlt
        have ht3 := all_take hlt
        obtain ⟨f1, f2, f3, f4⟩ := unhide HF _ (List.getElem_mem hlt)
        have hbad : ∀ (hr : right ⟨room, l, fuse, fault, down⟩ = false), Hid ((2 : Int) = res) := fun hr => by
          have H := unhide HR
          rw [hr] at H
          exact hide (show (2 : Int) = res from H)
        have hbw1 : Below w.heap.size w (wr.alloc (Obj.cells #[Value.string l[k].name, Value.string l[k].data, Value.int IntKind.i64 l[k].synced] 69)) := hbw0.alloc (by omega) _
        have hbw2 : Below W.heap.size W (wr.alloc (Obj.cells #[Value.string l[k].name, Value.string l[k].data, Value.int IntKind.i64 l[k].synced] 69)) := hbw.alloc (by omega) _
        have y0 : (wr.alloc (Obj.cells #[Value.string l[k].name, Value.string l[k].data, Value.int IntKind.i64 l[k].synced] 69)).cell? ⟨wr.heap.size, 0, none⟩ = some (.string l[k].name) := by simp
        have y1 : (wr.alloc (Obj.cells #[Value.string l[k].name, Value.string l[k].data, Value.int IntKind.i64 l[k].synced] 69)).cell? ⟨wr.heap.size, 1, none⟩ = some (.string l[k].data) := by simp
        have y2 : (wr.alloc (Obj.cells #[Value.string l[k].name, Value.string l[k].data, Value.int IntKind.i64 l[k].synced] 69)).cell? ⟨wr.heap.size, 2, none⟩ = some (.int .i64 l[k].synced) := by simp
        have y3 : (wr.alloc (Obj.cells #[Value.string l[k].name, Value.string l[k].data, Value.int IntKind.i64 l[k].synced] 69)).cell? ⟨w.heap.size, 1, none⟩ = some (.slice (some ⟨b, off, none⟩) l.length cap) := by rw [hbw2.cell (p := ⟨w.heap.size, 1, none⟩) (by simp; omega)]; exact hbx
        have hnm := fun w => isName_any l[k].name w f1
        have HW1 := hide hbw1
        have HW2 := hide hbw2
        clear hbw1 hbw2
        by_cases n1 : named l[k].name = true
        · by_cases hk0 : k = 0
          · have hdk : decide (0 < k) = false := by simp [hk0]
            rw [n1] at hnm
            by_cases s1 : 0 ≤ l[k].synced
            · by_cases s2 : l[k].synced ≤ (l[k].data.size : Int)
              · by_cases n4 : (used (l.take (k + 1)) : Int) ≤ room
                · have HU := hide ht1
                  have hok : fileOk l[k] = true := by simp [fileOk, n1, s1, s2]
                  have HAN := hide (show (l.take (k + 1)).all fileOk = true by rw [ht3, unhide HALL, hok]; rfl)
                  have HRN := hide (ht2.2 ⟨unhide HRI, Or.inl hk0⟩)
                  have hsub : room - (used (l.take k) : Int) - (l[k].data.size : Int) = room - (used (l.take (k + 1)) : Int) := by rw [ht1]; omega
                  have hge : 0 ≤ room - (used (l.take (k + 1)) : Int) := by omega
                  clear hbad HR ht1 ht2 ht3 hok hcl c0 c1 c2 HC hk0
                  obtain ⟨un, hun⟩ : ∃ un : Int, un = (used (l.take (k + 1)) : Int) := ⟨_, rfl⟩
                  rw [← hun] at hsub hge n4
                  have HUN := hide hun
                  clear hun
                  generalize l[k] = f at *
                  go_wp2
                  generalize wr.alloc (Obj.cells #[Value.string f.name, Value.string f.data, Value.int IntKind.i64 f.synced] 69) = wq at y0 y1 y2 y3 HW1 HW2 ⊢
                  go_quiet (first | (go_at_call 23; exact Calls.quiet_of_same (hnm _)))
                  go_wp2
                  exact ⟨⟨k + 1, by go_num, by rw [← unhide HUN], by omega, by rw [← unhide HUN]; exact n4, unhide HAN, unhide HRN, below_drewN (unhide HW2) _⟩, by simp [intOf]; omega⟩
                · have HE := hbad (right_not_used (d := ⟨room, l, fuse, fault, down⟩) (k := k + 1) (by simpa using n4))
                  have hlt0 : room - (used (l.take k) : Int) - (l[k].data.size : Int) < 0 := by rw [ht1] at n4; omega
                  clear hbad HR ht1 ht2 ht3 HALL HRI hcl c0 c1 c2 HC hk0
                  clear n4
                  generalize l[k] = f at *
                  go_wp2
                  generalize wr.alloc (Obj.cells #[Value.string f.name, Value.string f.data, Value.int IntKind.i64 f.synced] 69) = wq at y0 y1 y2 y3 HW1 HW2 ⊢
                  go_quiet (first | (go_at_call 23; exact Calls.quiet_of_same (hnm _)))
                  go_wp2
                  go_ret
                  exact ⟨by rw [← unhide HE]; rfl, below_drewN (unhide HW1) _⟩
              · have HE := hbad (right_not_all (d := ⟨room, l, fuse, fault, down⟩) hlt (by simp [fileOk, n1, s1]; omega))
                clear hbad HR ht1 ht2 ht3 HALL HRI hcl c0 c1 c2 HC hk0
                generalize l[k] = f at *
                go_wp2
                generalize wr.alloc (Obj.cells #[Value.string f.name, Value.string f.data, Value.int IntKind.i64 f.synced] 69) = wq at y0 y1 y2 y3 HW1 HW2 ⊢
                go_quiet (first | (go_at_call 23; exact Calls.quiet_of_same (hnm _)))
                go_wp2
                go_ret
                exact ⟨by rw [← unhide HE]; rfl, below_drewN (unhide HW1) _⟩
            · have HE := hbad (right_not_all (d := ⟨room, l, fuse, fault, down⟩) hlt (by simp [fileOk, n1]; omega))
              clear hbad HR ht1 ht2 ht3 HALL HRI hcl c0 c1 c2 HC hk0
              generalize l[k] = f at *
              go_wp2
              generalize wr.alloc (Obj.cells #[Value.string f.name, Value.string f.data, Value.int IntKind.i64 f.synced] 69) = wq at y0 y1 y2 y3 HW1 HW2 ⊢
              go_quiet (first | (go_at_call 23; exact Calls.quiet_of_same (hnm _)))
              go_wp2
              go_ret
              exact ⟨by rw [← unhide HE]; rfl, below_drewN (unhide HW1) _⟩
          · by_cases n2' : lt (l[k - 1]!).name l[k].name
            · skip
              rw [n1] at hnm
              obtain ⟨p0, _, _⟩ := row_cells hcl (show k - 1 < l.length by omega)
              have e1 : l[k - 1]! = l[k - 1] := getElem!_pos l _ (by omega)
              have z0 : (wr.alloc (Obj.cells #[Value.string l[k].name, Value.string l[k].data, Value.int IntKind.i64 l[k].synced] 69)).cell? ⟨b, off + (k - 1) * 3, none⟩ = some (.string (l[k - 1]!).name) := by
                rw [(unhide HW1).cell (p := ⟨b, off + (k - 1) * 3, none⟩) hb, e1]; exact p0
              have hleq := leqS l[k].name (l[k - 1]!).name
              rw [decide_eq_false (not_not_intro n2')] at hleq
              have hkn : 0 < k := by omega
              generalize (l[k - 1]!).name = pn at *
              obtain ⟨q, hq, hwr⟩ := wrap_pred k hkn (by omega)
              have hql : q < l.length := by omega
              have hqi : (q : Int) < (l.length : Int) := by omega
              rw [← hq] at z0
              by_cases s1 : 0 ≤ l[k].synced
              · by_cases s2 : l[k].synced ≤ (l[k].data.size : Int)
                · by_cases n4 : (used (l.take (k + 1)) : Int) ≤ room
                  · have HU := hide ht1
                    have hok : fileOk l[k] = true := by simp [fileOk, n1, s1, s2]
                    have HAN := hide (show (l.take (k + 1)).all fileOk = true by rw [ht3, unhide HALL, hok]; rfl)
                    have HRN := hide (ht2.2 ⟨unhide HRI, Or.inr n2'⟩)
                    have hsub : room - (used (l.take k) : Int) - (l[k].data.size : Int) = room - (used (l.take (k + 1)) : Int) := by rw [ht1]; omega
                    have hge : 0 ≤ room - (used (l.take (k + 1)) : Int) := by omega
                    clear hbad HR ht1 ht2 ht3 hok hcl c0 c1 c2 HC p0 e1 hq
                    obtain ⟨un, hun⟩ : ∃ un : Int, un = (used (l.take (k + 1)) : Int) := ⟨_, rfl⟩
                    rw [← hun] at hsub hge n4
                    have HUN := hide hun
                    clear hun
                    generalize l[k] = f at *
                    go_wp2
                    generalize wr.alloc (Obj.cells #[Value.string f.name, Value.string f.data, Value.int IntKind.i64 f.synced] 69) = wq at y0 y1 y2 y3 z0 HW1 HW2 ⊢
                    go_quiet (first | (go_at_call 23; exact Calls.quiet_of_same (hnm _)))
                    go_wp2
                    exact ⟨⟨k + 1, by go_num, by rw [← unhide HUN], by omega, by rw [← unhide HUN]; exact n4, unhide HAN, unhide HRN, below_drewN (unhide HW2) _⟩, by simp [intOf]; omega⟩
                  · have HE := hbad (right_not_used (d := ⟨room, l, fuse, fault, down⟩) (k := k + 1) (by simpa using n4))
                    have hlt0 : room - (used (l.take k) : Int) - (l[k].data.size : Int) < 0 := by rw [ht1] at n4; omega
                    clear hbad HR ht1 ht2 ht3 HALL HRI hcl c0 c1 c2 HC p0 e1 hq
                    clear n4
                    generalize l[k] = f at *
                    go_wp2
                    generalize wr.alloc (Obj.cells #[Value.string f.name, Value.string f.data, Value.int IntKind.i64 f.synced] 69) = wq at y0 y1 y2 y3 z0 HW1 HW2 ⊢
                    go_quiet (first | (go_at_call 23; exact Calls.quiet_of_same (hnm _)))
                    go_wp2
                    go_ret
                    exact ⟨by rw [← unhide HE]; rfl, below_drewN (unhide HW1) _⟩
                · have HE := hbad (right_not_all (d := ⟨room, l, fuse, fault, down⟩) hlt (by simp [fileOk, n1, s1]; omega))
                  clear hbad HR ht1 ht2 ht3 HALL HRI hcl c0 c1 c2 HC p0 e1 hq
                  generalize l[k] = f at *
                  go_wp2
                  generalize wr.alloc (Obj.cells #[Value.string f.name, Value.string f.data, Value.int IntKind.i64 f.synced] 69) = wq at y0 y1 y2 y3 z0 HW1 HW2 ⊢
                  go_quiet (first | (go_at_call 23; exact Calls.quiet_of_same (hnm _)))
                  go_wp2
                  go_ret
                  exact ⟨by rw [← unhide HE]; rfl, below_drewN (unhide HW1) _⟩
              · have HE := hbad (right_not_all (d := ⟨room, l, fuse, fault, down⟩) hlt (by simp [fileOk, n1]; omega))
                clear hbad HR ht1 ht2 ht3 HALL HRI hcl c0 c1 c2 HC p0 e1 hq
                generalize l[k] = f at *
                go_wp2
                generalize wr.alloc (Obj.cells #[Value.string f.name, Value.string f.data, Value.int IntKind.i64 f.synced] 69) = wq at y0 y1 y2 y3 z0 HW1 HW2 ⊢
                go_quiet (first | (go_at_call 23; exact Calls.quiet_of_same (hnm _)))
                go_wp2
                go_ret
                exact ⟨by rw [← unhide HE]; rfl, below_drewN (unhide HW1) _⟩
            · have HE := hbad (right_not_rise (d := ⟨room, l, fuse, fault, down⟩) (k := k + 1) (fun h => by rcases (ht2.1 h).2 with h | h; exact hk0 h; exact n2' h))
              rw [n1] at hnm
              obtain ⟨p0, _, _⟩ := row_cells hcl (show k - 1 < l.length by omega)
              have e1 : l[k - 1]! = l[k - 1] := getElem!_pos l _ (by omega)
              have z0 : (wr.alloc (Obj.cells #[Value.string l[k].name, Value.string l[k].data, Value.int IntKind.i64 l[k].synced] 69)).cell? ⟨b, off + (k - 1) * 3, none⟩ = some (.string (l[k - 1]!).name) := by
                rw [(unhide HW1).cell (p := ⟨b, off + (k - 1) * 3, none⟩) hb, e1]; exact p0
              have hleq := leqS l[k].name (l[k - 1]!).name
              rw [decide_eq_true n2'] at hleq
              have hkn : 0 < k := by omega
              generalize (l[k - 1]!).name = pn at *
              obtain ⟨q, hq, hwr⟩ := wrap_pred k hkn (by omega)
              have hql : q < l.length := by omega
              have hqi : (q : Int) < (l.length : Int) := by omega
              rw [← hq] at z0
              clear hbad HR ht1 ht2 ht3 hcl c0 c1 c2 n2' p0 e1 hq HALL HRI HC
              generalize l[k] = f at *
              go_wp2
              generalize wr.alloc (Obj.cells #[Value.string f.name, Value.string f.data, Value.int IntKind.i64 f.synced] 69) = wq at y0 y1 y2 y3 z0 HW1 HW2 ⊢
              go_quiet (first | (go_at_call 23; exact Calls.quiet_of_same (hnm _)))
              go_wp2
              go_ret
              exact ⟨by rw [← unhide HE]; rfl, below_drewN (unhide HW1) _⟩
        · have HE := hbad (right_not_all (d := ⟨room, l, fuse, fault, down⟩) hlt (by simp [fileOk, n1]))
          rw [Bool.not_eq_true] at n1
          rw [n1] at hnm
          clear hbad HR ht1 ht2 ht3 hcl c0 c1 c2 HALL HRI HC
          generalize l[k] = f at *
          go_wp2
          generalize wr.alloc (Obj.cells #[Value.string f.name, Value.string f.data, Value.int IntKind.i64 f.synced] 69) = wq at y0 y1 y2 y3 HW1 HW2 ⊢
          go_quiet (first | (go_at_call 23; exact Calls.quiet_of_same (hnm _)))
          go_wp2
          go_ret
          exact ⟨by rw [← unhide HE]; rfl, below_drewN (unhide HW1) _⟩
    · have hke : k = l.length := by omega
      subst hke
      rw [List.take_length] at *
      have hr : right ⟨room, l, fuse, fault, down⟩ = true := right_yes (unhide HH) hus (by simpa using unhide HALL) (by simpa using unhide HRI)
      have H := unhide HR
      rw [hr] at H
      have HE := hide (show (0 : Int) = res from H)
      clear HALL HRI H HR hr
      go_wp2
      go_ret
      exact ⟨by rw [← unhide HE]; rfl, hbw0⟩

end Go.Proofs.YtpfmhlldkikbjaaDoor
