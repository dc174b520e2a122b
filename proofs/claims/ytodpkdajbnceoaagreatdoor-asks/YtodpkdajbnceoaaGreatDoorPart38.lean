import Derived.Test.YtodpkdajbnceoaaGreatDoorPart34
set_option linter.all false
set_option maxHeartbeats 4000000
set_option maxRecDepth 100000
namespace Go.Proofs.YtodpkdajbnceoaaGreatDoor
open Go.RowKit Go.Shelf
theorem asCall_t {w : World} {Ok : Nat → Prop} {vbs : List Nat} (n : ByteArray) (args : List Ex) (g ga cap : Nat) (cur : Array Value) (us : List Value) (hg : w.heap[g]? = some (.cells #[.string n, .slice (some ⟨ga, 0, none⟩) args.length cap, .slice none 0 0, .map none] 399 (0, 0)))
      (ho : Ok ga) (ha : w.heap[ga]? = some (.cells cur 185 (0, 0))) (hc : args.length ≤ cap) (hm : cap ≤ maxLen) (hs : cur.size = cap) (hu : cur.toList.take args.length = us) (hr : TRepL w Ok vbs args us) (hl : 0 < args.length)
      (hb1 : decide (n = B [46] ∧ args.length = 2) = true) (hb : badEx (.cmp n args) = true) : Calls Tryz.prog 284 #[.iface 342 (ptrV g)] w fun e w' => CallPost (.cmp n args) w e w' := by
  have tCA := Tryz.taCA
  have tCC := Tryz.taCC
  have hT : TRep w Ok vbs (.cmp n args) (.iface 342 (ptrV g)) := .cmp n args g ga cap cur us hg ho ha hc hm hs hu hr hl
  have HC : Hid (∀ W, Below w.heap.size w W → Calls Tryz.prog 227 #[ptrV g] W fun e w' => e = .returned (.bool true) ∧ w' = W) := fun W hb => by
    have := isCell_c (ga := ga) (cap := cap) (show CompAt W g n ga args.length cap from (hb.block g (Array.getElem?_eq_some_iff.1 hg).1).trans hg) (Nat.le_trans hc hm)
    rw [hb1] at this
    exact this
  obtain ⟨c0, c1, cf⟩ := box4c hg
  have hlt : g < w.heap.size := (Array.getElem?_eq_some_iff.1 hg).1
  have HB := hide hb
  clear hb hb1 hT hg ho ha hc hm hs hu hr hl
  unfold ptrV at *
  have hW : ∀ o, Below w.heap.size w (w.alloc o).drew := fun o => ((Below.refl _ _).alloc (Nat.le_refl _) o).drew
  go_enter Tryz.func284, Tryz.ntmps284
  go_wp2_with fail
  first
  | (go_region_with (first | (go_at_call 227; refine (HC.out _ (hW _)).mono ?_; rintro e w1 ⟨rfl, rfl⟩)))
  | fail
  all_goals
    go_wp2_with fail
    exact bodyPost_ret (v := .tuple #[.agg #[.string n, .slice (some ⟨ga, 0, none⟩) args.length cap], .bool false]) (by simp [results, Tryz.results284, go_sem]) rfl ⟨hW _, _, cap, by rw [HB.out]; rfl⟩
end Go.Proofs.YtodpkdajbnceoaaGreatDoor
