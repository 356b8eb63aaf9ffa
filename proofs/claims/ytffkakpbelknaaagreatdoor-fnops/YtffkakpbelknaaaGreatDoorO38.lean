/- Parts of the proof. -/
import Derived.BigQuiet
import Derived.Test.YtffkakpbelknaaaGreatDoorO21
import Derived.Test.YtffkakpbelknaaaGreatDoorO34
import Derived.Test.YtffkakpbelknaaaGreatDoorO37
set_option maxHeartbeats 4000000
set_option maxRecDepth 100000
namespace Go.Proofs.YtffkakpbelknaaaGreatDoor
open Go.ChangeShapes Go.WideShapes Go.ChangeAt Go.RowKit
set_option linter.unusedVariables false
def smI (x : It) : Prop := x.id.size <= 3 /\ x.ti.size <= 8
theorem itC_one (y : It) : ∀ u ∈ itC y, u.oneCell' = true := by
 intro u hu
 simp only [itC, List.mem_cons, List.not_mem_nil, or_false] at hu
 rcases hu with rfl | rfl | rfl <;> rfl
theorem smI_at {its : List It} (h : ∀ y ∈ its, smI y) {w : World} {B : Nat} {v : Value} (hr : RecAt 3 itC w B v its) : ItAt w B v its := ⟨hr, fun x hx => by have := h x hx; unfold smI at this; unfold maxLen; omega⟩
theorem smI_app {os : List It} {x : It} (h : ∀ y ∈ os, smI y) (hx : smI x) : ∀ y ∈ os ++ [x], smI y := by
 intro y hy
 rcases List.mem_append.1 hy with h1 | h1
 ·exact h y h1
 ·rw [List.mem_singleton.1 h1]; exact hx
def OutPI (n B : Nat) (w : World) (e : Ending) (w' : World) : Prop := ∃ (r : Value) (os : List It), e = .returned r /\ os.length <= n /\ (∀ y ∈ os, smI y) /\ OwnR 55 3 itC w' B r os /\ Below B w w'
theorem l8Put_any (v : Value) (its : List It) (x : It) (w : World) (h : RecAt 3 itC w w.heap.size v its) (hs : ∀ y ∈ its, smI y) (hx : smI x) (hn : its.length <= 1000) :
  Calls Tryz.prog 92 #[v, itV x.id x.ti x.da] w (OutPI (its.length + 1) w.heap.size w) := by
 have HI := Lib.hid (smI_at hs h)
 have HS := Lib.hid hs
 have HX := Lib.hid hx
 obtain ⟨a, cap, rfl, hl, hm, hc⟩ := (smI_at hs h).raw
 unfold maxLen at hm
 clear hc h hs hx
 obtain ⟨W0, hW0⟩ : ∃ W0, W0 = w.alloc (.cells #[.string x.id, .string x.ti, .int .i64 x.da] 55) := ⟨_, rfl⟩
 have hx0 : Box W0 w.heap.size #[.string x.id, .string x.ti, .int .i64 x.da] 55 := by rw [hW0]; exact Box.new _ _ _
 have hb0 : Below w.heap.size w W0 := by rw [hW0]; exact (Below.refl _ _).alloc (Nat.le_refl _) _
 have hz0 : W0.heap.size = w.heap.size + 1 := by rw [hW0]; simp
 have HB0 := Lib.hid hb0
 have HR0 := Lib.hid ((HI.out.below hb0))
 have HF : Hid (∀ w', Below (w.heap.size + 1) W0 w' -> w'.cell? ⟨w.heap.size, 0, none⟩ = some (.string x.id) /\ w'.cell? ⟨w.heap.size, 1, none⟩ = some (.string x.ti) /\ w'.cell? ⟨w.heap.size, 2, none⟩ = some (.int .i64 x.da)) := Lib.hid (fun w' hb => by
  have hk := hx0.keep hb (Nat.lt_succ_self _)
  exact ⟨hk.cell 0 _ rfl, hk.cell 1 _ rfl, hk.cell 2 _ rfl⟩)
 have hl0 := OwnR.lit (k := 3) (C := itC) 55 W0 (w.heap.size + 1) (by omega)
 have hb1 : Below (w.heap.size + 1) W0 (W0.alloc (.cells #[] 55)) := (Below.refl _ _).alloc (by omega) _
 go_enter Tryz.func92, Tryz.ntmps92
 go_wp2_with fail
 rw [hz0] at hl0
 subst hW0
 go_loopw [5, 6, 7] (fun V d i wr => ∃ (k : Nat) (D : Bool) (os : List It) (va : Option Addr) (vc : Nat), k <= its.length /\ i = .int .i64 (k : Int) /\ d = .bool D /\ V = .slice va os.length vc /\ os.length <= k + 1 /\ (D = false -> os.length <= k) /\ Hid (∀ y ∈ os, smI y) /\ OwnR 55 3 itC wr (w.heap.size + 1) (.slice va os.length vc) os /\ Below (w.heap.size + 1) (w.alloc (.cells #[.string x.id, .string x.ti, .int .i64 x.da] 55)) wr) (fun _ _ i _ => its.length - (intOf i).toNat)
 case atStart => exact ⟨0, false, [], some ⟨w.heap.size + 1, 0, none⟩, 0, Nat.zero_le _, rfl, rfl, rfl, by simp, fun _ => by simp, Lib.hid (by simp), hl0, hb1⟩
 case round =>
  obtain ⟨k, D, os, va, vc, hk, rfl, rfl, rfl, ho1, ho2, HSo, hO, hB⟩ := hrel
  have hsz : w.heap.size + 1 <= wr.heap.size := by have := hB.size; simpa using this
  clear hl0 hb1 hx0 hb0 hz0
  by_cases hlt : k < its.length
  ·obtain ⟨a', cap', hv, _, _, hc⟩ := HR0.out.raw
   cases hv
   obtain ⟨b, off, rfl, hb, hr⟩ := hc k hlt
   obtain ⟨C0, C1, C2, _, _⟩ := hr k hlt
   have HY : Hid (smI its[k]) := Lib.hid (HS.out _ (List.getElem_mem hlt))
   generalize its[k] = y at C0 C1 C2 HY
   have HC : Hid (∀ w', Below (w.heap.size + 1) (w.alloc (.cells #[.string x.id, .string x.ti, .int .i64 x.da] 55)) w' -> w'.cell? ⟨b, off + k * 3, none⟩ = some (.string y.id) /\ w'.cell? ⟨b, off + k * 3 + 1, none⟩ = some (.string y.ti) /\ w'.cell? ⟨b, off + k * 3 + 2, none⟩ = some (.int .i64 y.da)) := Lib.hid (fun w' hb' => ⟨(hb'.cell (p := ⟨b, off + k * 3, none⟩) (by show b < _; omega)).trans C0, (hb'.cell (p := ⟨b, off + k * 3 + 1, none⟩) (by show b < _; omega)).trans C1, (hb'.cell (p := ⟨b, off + k * 3 + 2, none⟩) (by show b < _; omega)).trans C2⟩)
   have hkl : decide ((k : Int) < (its.length : Int)) = true := decide_eq_true (by omega)
   have HBn : Hid (∀ n, Below (w.heap.size + 1) (w.alloc (.cells #[.string x.id, .string x.ti, .int .i64 x.da] 55)) (wr.drewN n)) := Lib.hid (fun n => below_drewN hB n)
   have HOn : Hid (∀ n, OwnR 55 3 itC (wr.drewN n) (w.heap.size + 1) (.slice va os.length vc) os) := Lib.hid (fun n => hO)
   obtain ⟨f0, f1, f2⟩ := HF.out _ hB
   obtain ⟨c0, c1, c2⟩ := HC.out _ hB
   clear hr hc C0 C1 C2 hB hO
   cases D with
   | true =>
    have ho2 := True.intro
    cases hne : (y.id.toList == x.id.toList) with
    | true =>
     go_wp2
     go_quiet (fail)
     go_wp2
     go_quiet (fail)
     go_wp2
     go_roundw
     case rel => exact ⟨k + 1, true, os, va, vc, by omega, by go_num, rfl, by first | rfl | simp, by first | omega | (simp; omega), (by intro h; cases h), HSo, HOn.out _, HBn.out _⟩
     case measure => simp [intOf]; omega
    | false =>
     have HA4 : Hid (∀ n, OwnR 55 3 itC ((wr.drewN n).alloc (.cells #[.string y.id, .string y.ti, .int .i64 y.da] 55)) (w.heap.size + 1) _ os) := Lib.hid (fun n => (HOn.out n).alloc (.cells #[.string y.id, .string y.ti, .int .i64 y.da] 55))
     have HN4 : Hid (∀ n, RecAt 3 itC ((wr.drewN n).alloc (.cells #[.string y.id, .string y.ti, .int .i64 y.da] 55)) ((wr.drewN n).heap.size + 1) (.slice (some ⟨(wr.drewN n).heap.size, 0, none⟩) 1 1) [y]) := Lib.hid (fun n => one_rec itC_len (wr.drewN n) 55 y #[.string y.id, .string y.ti, .int .i64 y.da] rfl)
     have HU4 : Hid (∀ u ∈ ([y] : List It), ∀ z ∈ itC u, z.oneCell' = true) := Lib.hid (fun u _ => itC_one u)
     have HZ4 : Hid (∀ n, w.heap.size + 1 <= ((wr.drewN n).alloc (.cells #[.string y.id, .string y.ti, .int .i64 y.da] 55)).heap.size) := Lib.hid (fun n => by simp; omega)
     have HD4 : Hid (∀ n, Below (w.heap.size + 1) (w.alloc (.cells #[.string x.id, .string x.ti, .int .i64 x.da] 55)) ((wr.drewN n).alloc (.cells #[.string y.id, .string y.ti, .int .i64 y.da] 55))) := Lib.hid (fun n => (HBn.out n).alloc (by simp; omega) (.cells #[.string y.id, .string y.ti, .int .i64 y.da] 55))
     have hln4 : os.length + ([y] : List It).length <= 100000000 := by simp; omega
     go_wp2
     go_quiet (fail)
     go_wp2
     go_quiet (fail)
     go_wp2_with (
      (at_builtin
       refine wpList_appR itC_len (by decide) Tryz.underlying24 Tryz.infoItem rfl (by decide) rfl (.tmp 39) (.tmp 44) rfl (w.heap.size + 1) _ _ _ os [y] rfl rfl (HA4.out _) (HN4.out _) HU4.out hln4 (HZ4.out _) ?_
       intro v4 w4 hown4 hg4
       have hB4 := (HD4.out _).grown hg4 (HZ4.out _) (ownBlock_base (HA4.out 0))
       have HB4 : Hid (∀ n, Below (w.heap.size + 1) (w.alloc (.cells #[.string x.id, .string x.ti, .int .i64 x.da] 55)) (w4.drewN n)) := Lib.hid (fun n => below_drewN hB4 n)
       have HO4 : Hid (∀ n, OwnR 55 3 itC (w4.drewN n) (w.heap.size + 1) v4 (os ++ [y])) := Lib.hid (fun n => hown4)
       obtain ⟨va4, vc4, rfl⟩ := hown4.slice
       clear hB4 hown4 hg4))
     go_roundw
     case rel => exact ⟨k + 1, true, (os ++ [y]), va4, vc4, by omega, by go_num, rfl, by first | rfl | simp, by first | omega | (simp; omega), (by intro h; cases h), (Lib.hid (smI_app HSo.out HY.out)), HO4.out 0, HB4.out 0⟩
     case measure => simp [intOf]; omega
   | false =>
    replace ho2 := ho2 rfl
    cases hlo : Op.bytesLess y.id.toList x.id.toList with
    | true =>
     cases hne : (y.id.toList == x.id.toList) with
     | true =>
      go_wp2
      go_quiet (fail)
      go_wp2
      go_quiet (fail)
      go_wp2
      go_roundw
      case rel => exact ⟨k + 1, false, os, va, vc, by omega, by go_num, rfl, by first | rfl | simp, by first | omega | (simp; omega), (fun _ => by first | omega | (simp; omega)), HSo, HOn.out _, HBn.out _⟩
      case measure => simp [intOf]; omega
     | false =>
      have HA4 : Hid (∀ n, OwnR 55 3 itC ((wr.drewN n).alloc (.cells #[.string y.id, .string y.ti, .int .i64 y.da] 55)) (w.heap.size + 1) _ os) := Lib.hid (fun n => (HOn.out n).alloc (.cells #[.string y.id, .string y.ti, .int .i64 y.da] 55))
      have HN4 : Hid (∀ n, RecAt 3 itC ((wr.drewN n).alloc (.cells #[.string y.id, .string y.ti, .int .i64 y.da] 55)) ((wr.drewN n).heap.size + 1) (.slice (some ⟨(wr.drewN n).heap.size, 0, none⟩) 1 1) [y]) := Lib.hid (fun n => one_rec itC_len (wr.drewN n) 55 y #[.string y.id, .string y.ti, .int .i64 y.da] rfl)
      have HU4 : Hid (∀ u ∈ ([y] : List It), ∀ z ∈ itC u, z.oneCell' = true) := Lib.hid (fun u _ => itC_one u)
      have HZ4 : Hid (∀ n, w.heap.size + 1 <= ((wr.drewN n).alloc (.cells #[.string y.id, .string y.ti, .int .i64 y.da] 55)).heap.size) := Lib.hid (fun n => by simp; omega)
      have HD4 : Hid (∀ n, Below (w.heap.size + 1) (w.alloc (.cells #[.string x.id, .string x.ti, .int .i64 x.da] 55)) ((wr.drewN n).alloc (.cells #[.string y.id, .string y.ti, .int .i64 y.da] 55))) := Lib.hid (fun n => (HBn.out n).alloc (by simp; omega) (.cells #[.string y.id, .string y.ti, .int .i64 y.da] 55))
      have hln4 : os.length + ([y] : List It).length <= 100000000 := by simp; omega
      go_wp2
      go_quiet (fail)
      go_wp2
      go_quiet (fail)
      go_wp2_with (
       (at_builtin
        refine wpList_appR itC_len (by decide) Tryz.underlying24 Tryz.infoItem rfl (by decide) rfl (.tmp 39) (.tmp 44) rfl (w.heap.size + 1) _ _ _ os [y] rfl rfl (HA4.out _) (HN4.out _) HU4.out hln4 (HZ4.out _) ?_
        intro v4 w4 hown4 hg4
        have hB4 := (HD4.out _).grown hg4 (HZ4.out _) (ownBlock_base (HA4.out 0))
        have HB4 : Hid (∀ n, Below (w.heap.size + 1) (w.alloc (.cells #[.string x.id, .string x.ti, .int .i64 x.da] 55)) (w4.drewN n)) := Lib.hid (fun n => below_drewN hB4 n)
        have HO4 : Hid (∀ n, OwnR 55 3 itC (w4.drewN n) (w.heap.size + 1) v4 (os ++ [y])) := Lib.hid (fun n => hown4)
        obtain ⟨va4, vc4, rfl⟩ := hown4.slice
        clear hB4 hown4 hg4))
      go_roundw
      case rel => exact ⟨k + 1, false, (os ++ [y]), va4, vc4, by omega, by go_num, rfl, by first | rfl | simp, by first | omega | (simp; omega), (fun _ => by first | omega | (simp; omega)), (Lib.hid (smI_app HSo.out HY.out)), HO4.out 0, HB4.out 0⟩
      case measure => simp [intOf]; omega
    | false =>
     cases hne : (y.id.toList == x.id.toList) with
     | true =>
      have HA3 : Hid (∀ n, OwnR 55 3 itC ((wr.drewN n).alloc (.cells #[.string x.id, .string x.ti, .int .i64 x.da] 55)) (w.heap.size + 1) _ os) := Lib.hid (fun n => (HOn.out n).alloc (.cells #[.string x.id, .string x.ti, .int .i64 x.da] 55))
      have HN3 : Hid (∀ n, RecAt 3 itC ((wr.drewN n).alloc (.cells #[.string x.id, .string x.ti, .int .i64 x.da] 55)) ((wr.drewN n).heap.size + 1) (.slice (some ⟨(wr.drewN n).heap.size, 0, none⟩) 1 1) [x]) := Lib.hid (fun n => one_rec itC_len (wr.drewN n) 55 x #[.string x.id, .string x.ti, .int .i64 x.da] rfl)
      have HU3 : Hid (∀ u ∈ ([x] : List It), ∀ z ∈ itC u, z.oneCell' = true) := Lib.hid (fun u _ => itC_one u)
      have HZ3 : Hid (∀ n, w.heap.size + 1 <= ((wr.drewN n).alloc (.cells #[.string x.id, .string x.ti, .int .i64 x.da] 55)).heap.size) := Lib.hid (fun n => by simp; omega)
      have HD3 : Hid (∀ n, Below (w.heap.size + 1) (w.alloc (.cells #[.string x.id, .string x.ti, .int .i64 x.da] 55)) ((wr.drewN n).alloc (.cells #[.string x.id, .string x.ti, .int .i64 x.da] 55))) := Lib.hid (fun n => (HBn.out n).alloc (by simp; omega) (.cells #[.string x.id, .string x.ti, .int .i64 x.da] 55))
      have hln3 : os.length + ([x] : List It).length <= 100000000 := by simp; omega
      go_wp2
      go_quiet (fail)
      go_wp2_with (
       (at_builtin
        refine wpList_appR itC_len (by decide) Tryz.underlying24 Tryz.infoItem rfl (by decide) rfl (.tmp 27) (.tmp 29) rfl (w.heap.size + 1) _ _ _ os [x] rfl rfl (HA3.out _) (HN3.out _) HU3.out hln3 (HZ3.out _) ?_
        intro v3 w3 hown3 hg3
        have hB3 := (HD3.out _).grown hg3 (HZ3.out _) (ownBlock_base (HA3.out 0))
        have HB3 : Hid (∀ n, Below (w.heap.size + 1) (w.alloc (.cells #[.string x.id, .string x.ti, .int .i64 x.da] 55)) (w3.drewN n)) := Lib.hid (fun n => below_drewN hB3 n)
        have HO3 : Hid (∀ n, OwnR 55 3 itC (w3.drewN n) (w.heap.size + 1) v3 (os ++ [x])) := Lib.hid (fun n => hown3)
        obtain ⟨f0, f1, f2⟩ := HF.out _ hB3
        obtain ⟨c0, c1, c2⟩ := HC.out _ hB3
        have hsz3 : w.heap.size + 1 <= w3.heap.size := by have := hB3.size; simpa using this
        obtain ⟨va3, vc3, hv3⟩ := hown3.slice
        rw [show (os ++ [x]).length = os.length + 1 by simp] at hv3
        subst hv3
        clear hB3 hown3 hg3))
      go_quiet (fail)
      go_wp2
      go_roundw
      case rel => exact ⟨k + 1, true, (os ++ [x]), va3, vc3, by omega, by go_num, rfl, by first | rfl | simp, by first | omega | (simp; omega), (by intro h; cases h), (Lib.hid (smI_app HSo.out HX.out)), (by have h9 := HO3.out; simp only [List.length_append, List.length_singleton] at h9 ⊢; exact h9 _), HB3.out _⟩
      case measure => simp [intOf]; omega
     | false =>
      have HA3 : Hid (∀ n, OwnR 55 3 itC ((wr.drewN n).alloc (.cells #[.string x.id, .string x.ti, .int .i64 x.da] 55)) (w.heap.size + 1) _ os) := Lib.hid (fun n => (HOn.out n).alloc (.cells #[.string x.id, .string x.ti, .int .i64 x.da] 55))
      have HN3 : Hid (∀ n, RecAt 3 itC ((wr.drewN n).alloc (.cells #[.string x.id, .string x.ti, .int .i64 x.da] 55)) ((wr.drewN n).heap.size + 1) (.slice (some ⟨(wr.drewN n).heap.size, 0, none⟩) 1 1) [x]) := Lib.hid (fun n => one_rec itC_len (wr.drewN n) 55 x #[.string x.id, .string x.ti, .int .i64 x.da] rfl)
      have HU3 : Hid (∀ u ∈ ([x] : List It), ∀ z ∈ itC u, z.oneCell' = true) := Lib.hid (fun u _ => itC_one u)
      have HZ3 : Hid (∀ n, w.heap.size + 1 <= ((wr.drewN n).alloc (.cells #[.string x.id, .string x.ti, .int .i64 x.da] 55)).heap.size) := Lib.hid (fun n => by simp; omega)
      have HD3 : Hid (∀ n, Below (w.heap.size + 1) (w.alloc (.cells #[.string x.id, .string x.ti, .int .i64 x.da] 55)) ((wr.drewN n).alloc (.cells #[.string x.id, .string x.ti, .int .i64 x.da] 55))) := Lib.hid (fun n => (HBn.out n).alloc (by simp; omega) (.cells #[.string x.id, .string x.ti, .int .i64 x.da] 55))
      have hln3 : os.length + ([x] : List It).length <= 100000000 := by simp; omega
      go_wp2
      go_quiet (fail)
      go_wp2_with (
       (at_builtin
        refine wpList_appR itC_len (by decide) Tryz.underlying24 Tryz.infoItem rfl (by decide) rfl (.tmp 27) (.tmp 29) rfl (w.heap.size + 1) _ _ _ os [x] rfl rfl (HA3.out _) (HN3.out _) HU3.out hln3 (HZ3.out _) ?_
        intro v3 w3 hown3 hg3
        have hB3 := (HD3.out _).grown hg3 (HZ3.out _) (ownBlock_base (HA3.out 0))
        have HB3 : Hid (∀ n, Below (w.heap.size + 1) (w.alloc (.cells #[.string x.id, .string x.ti, .int .i64 x.da] 55)) (w3.drewN n)) := Lib.hid (fun n => below_drewN hB3 n)
        have HO3 : Hid (∀ n, OwnR 55 3 itC (w3.drewN n) (w.heap.size + 1) v3 (os ++ [x])) := Lib.hid (fun n => hown3)
        obtain ⟨f0, f1, f2⟩ := HF.out _ hB3
        obtain ⟨c0, c1, c2⟩ := HC.out _ hB3
        have hsz3 : w.heap.size + 1 <= w3.heap.size := by have := hB3.size; simpa using this
        obtain ⟨va3, vc3, hv3⟩ := hown3.slice
        rw [show (os ++ [x]).length = os.length + 1 by simp] at hv3
        subst hv3
        have HA4 : Hid (∀ n, OwnR 55 3 itC ((w3.drewN n).alloc (.cells #[.string y.id, .string y.ti, .int .i64 y.da] 55)) (w.heap.size + 1) _ (os ++ [x])) := Lib.hid (fun n => (HO3.out n).alloc (.cells #[.string y.id, .string y.ti, .int .i64 y.da] 55))
        have HN4 : Hid (∀ n, RecAt 3 itC ((w3.drewN n).alloc (.cells #[.string y.id, .string y.ti, .int .i64 y.da] 55)) ((w3.drewN n).heap.size + 1) (.slice (some ⟨(w3.drewN n).heap.size, 0, none⟩) 1 1) [y]) := Lib.hid (fun n => one_rec itC_len (w3.drewN n) 55 y #[.string y.id, .string y.ti, .int .i64 y.da] rfl)
        have HU4 : Hid (∀ u ∈ ([y] : List It), ∀ z ∈ itC u, z.oneCell' = true) := Lib.hid (fun u _ => itC_one u)
        have HZ4 : Hid (∀ n, w.heap.size + 1 <= ((w3.drewN n).alloc (.cells #[.string y.id, .string y.ti, .int .i64 y.da] 55)).heap.size) := Lib.hid (fun n => by simp; omega)
        have HD4 : Hid (∀ n, Below (w.heap.size + 1) (w.alloc (.cells #[.string x.id, .string x.ti, .int .i64 x.da] 55)) ((w3.drewN n).alloc (.cells #[.string y.id, .string y.ti, .int .i64 y.da] 55))) := Lib.hid (fun n => (HB3.out n).alloc (by simp; omega) (.cells #[.string y.id, .string y.ti, .int .i64 y.da] 55))
        have hln4 : (os ++ [x]).length + ([y] : List It).length <= 100000000 := by simp; omega
        clear hB3 hown3 hg3))
      go_quiet (fail)
      go_wp2_with (
       (at_builtin
        refine wpList_appR itC_len (by decide) Tryz.underlying24 Tryz.infoItem rfl (by decide) rfl (.tmp 39) (.tmp 44) rfl (w.heap.size + 1) _ _ _ (os ++ [x]) [y] rfl rfl (HA4.out _) (HN4.out _) HU4.out hln4 (HZ4.out _) ?_
        intro v4 w4 hown4 hg4
        have hB4 := (HD4.out _).grown hg4 (HZ4.out _) (ownBlock_base (HA4.out 0))
        have HB4 : Hid (∀ n, Below (w.heap.size + 1) (w.alloc (.cells #[.string x.id, .string x.ti, .int .i64 x.da] 55)) (w4.drewN n)) := Lib.hid (fun n => below_drewN hB4 n)
        have HO4 : Hid (∀ n, OwnR 55 3 itC (w4.drewN n) (w.heap.size + 1) v4 ((os ++ [x]) ++ [y])) := Lib.hid (fun n => hown4)
        obtain ⟨va4, vc4, rfl⟩ := hown4.slice
        clear hB4 hown4 hg4))
      go_roundw
      case rel => exact ⟨k + 1, true, ((os ++ [x]) ++ [y]), va4, vc4, by omega, by go_num, rfl, by first | rfl | simp, by first | omega | (simp; omega), (by intro h; cases h), (Lib.hid (smI_app (Lib.hid (smI_app HSo.out HX.out)).out HY.out)), HO4.out 0, HB4.out 0⟩
      case measure => simp [intOf]; omega
  ·have hkl : decide ((k : Int) < (its.length : Int)) = false := decide_eq_false (by omega)
   have HBn : Hid (∀ n : Nat, Below (w.heap.size + 1) (w.alloc (.cells #[.string x.id, .string x.ti, .int .i64 x.da] 55)) wr) := Lib.hid (fun n => hB)
   have HOn : Hid (∀ n : Nat, OwnR 55 3 itC wr (w.heap.size + 1) (.slice va os.length vc) os) := Lib.hid (fun n => hO)
   obtain ⟨f0, f1, f2⟩ := HF.out _ hB
   clear hB hO
   cases D with
   | true =>
    go_wp2
    go_ret
    exact ⟨_, os, rfl, by omega, HSo.out, (HOn.out 0).base_mono (Nat.le_succ _), HB0.out.trans ((HBn.out 0).mono (by omega))⟩
   | false =>
    replace ho2 := ho2 rfl
    have HA5 := Lib.hid ((HOn.out 0).alloc (.cells #[.string x.id, .string x.ti, .int .i64 x.da] 55))
    have HN5 := Lib.hid (one_rec itC_len (wr) 55 x #[.string x.id, .string x.ti, .int .i64 x.da] rfl)
    have HU5 : Hid (∀ u ∈ ([x] : List It), ∀ z ∈ itC u, z.oneCell' = true) := Lib.hid (fun u _ => itC_one u)
    have hsa5 : w.heap.size + 1 <= ((wr).alloc (.cells #[.string x.id, .string x.ti, .int .i64 x.da] 55)).heap.size := by simp; omega
    have HD5 := Lib.hid ((HBn.out 0).alloc (by first | omega | (simp; omega)) (.cells #[.string x.id, .string x.ti, .int .i64 x.da] 55))
    have hln5 : os.length + ([x] : List It).length <= 100000000 := by simp; omega
    go_wp2_with (
     (at_builtin
      refine wpList_appR itC_len (by decide) Tryz.underlying24 Tryz.infoItem rfl (by decide) rfl (.tmp 48) (.tmp 50) rfl (w.heap.size + 1) _ _ _ os [x] rfl rfl HA5.out HN5.out HU5.out hln5 hsa5 ?_
      intro v5 w5 hown5 hg5
      have hB5 := HD5.out.grown hg5 hsa5 (ownBlock_base HA5.out)
      have HB5 : Hid (∀ n, Below (w.heap.size + 1) (w.alloc (.cells #[.string x.id, .string x.ti, .int .i64 x.da] 55)) (w5.drewN n)) := Lib.hid (fun n => below_drewN hB5 n)
      have HO5 : Hid (∀ n, OwnR 55 3 itC (w5.drewN n) (w.heap.size + 1) v5 (os ++ [x])) := Lib.hid (fun n => hown5)
      skip
      clear hB5 hown5 hg5))
    go_ret
    exact ⟨_, _, rfl, by simp; omega, smI_app HSo.out HX.out, (HO5.out 0).base_mono (Nat.le_succ _), HB0.out.trans ((HB5.out 0).mono (by omega))⟩
end Go.Proofs.YtffkakpbelknaaaGreatDoor
namespace Go.Proofs.YtffkakpbelknaaaGreatDoor
open Go.ChangeShapes Go.WideShapes Go.ChangeAt Go.RowKit
set_option linter.unusedVariables false
theorem OwnR.keepG {α : Type} {k : Nat} {C : α -> List Value} {e : TypeId} {w w' : World} {base rb : Nat} {v : Value} {l : List α} (h : OwnR e k C w base v l) (hg : w.grownBy w' (some rb)) (hb : rb < base) : OwnR e k C w' base v l := by
 refine ⟨h.1, ?_⟩
 rcases h.2 with h2 | ⟨g, cap, cur, hv, hbg, hblk, rest⟩
 ·exact .inl h2
 ·exact .inr ⟨g, cap, cur, hv, hbg, (hg.block g (Array.getElem?_eq_some_iff.1 hblk).1 (fun e => by have := Option.some.inj e; omega)).trans hblk, rest⟩
def OutFd (base rb : Nat) (cv : Value) (zs : List Int) (w : World) (e : Ending) (w' : World) : Prop :=
 ∃ (u t : ByteArray) (x : Value) (its : List It), e = .returned (fV u t x) /\ u.size <= 3 /\ t.size <= 8 /\ its.length <= 4 /\ (∀ y ∈ its, smI y) /\ OwnR 55 3 itC w' w.heap.size x its /\ Rd w' base rb cv zs /\ w.grownBy w' (some rb)
theorem feed_any (base rb : Nat) (cv : Value) (zs : List Int) (w : World) (h : Rd w base rb cv zs) :
  Calls Tryz.prog 45 #[.pointer (some ⟨rb, 0, none⟩)] w (OutFd base rb cv zs w) := by
 have hrb := h.lt
 have hr0 := h.alloc (.cells #[.string ⟨#[]⟩, .string ⟨#[]⟩, .slice none 0 0] 26)
 have hg0 := World.grownBy_alloc w (.cells #[.string ⟨#[]⟩, .string ⟨#[]⟩, .slice none 0 0] 26) (some rb)
 have hz0 := Box.new w #[.string ⟨#[]⟩, .string ⟨#[]⟩, .slice none 0 0] 26
 have hs0 : (w.alloc (.cells #[.string ⟨#[]⟩, .string ⟨#[]⟩, .slice none 0 0] 26)).heap.size = w.heap.size + 1 := by simp
 clear h
 go_enter Tryz.func45, Tryz.ntmps45
 go_wp2_with fail
 refine (url_any base rb cv zs _ hr0).mono ?_
 rintro e w1 ⟨u, rfl, hu, hr1, hg1⟩
 have hz1 := hz0.keepG hg1 (by omega)
 have g1 := grown_trans hg0 hg1
 clear hz0 hg0 hg1 hr0 hs0
 go_wp2_with fail
 refine (title_any base rb cv zs _ hr1).mono ?_
 rintro e w2 ⟨t, rfl, ht, hr2, hg2⟩
 have hz2 := hz1.keepG hg2 (by omega)
 have g2 := grown_trans g1 hg2
 clear hz1 hg2 hr1 g1
 have hf2 := Box.new w2 #[.string u, .string t, .slice none 0 0] 26
 have hr3 := hr2.alloc (.cells #[.string u, .string t, .slice none 0 0] 26)
 have hz3 := hz2.alloc (.cells #[.string u, .string t, .slice none 0 0] 26)
 have g3 := grown_trans g2 (World.grownBy_alloc w2 (.cells #[.string u, .string t, .slice none 0 0] 26) (some rb))
 have hF := hz2.lt
 clear hr2 hz2 g2
 go_wp2_with fail
 refine (below_any 5 base rb cv zs _ hr3 (by omega) (by omega)).mono ?_
 rintro e w3 ⟨y, rfl, hy0, hy1, hr4, hg4⟩
 have hf4 := hf2.keepG hg4 (by omega)
 have hz4 := hz3.keepG hg4 (by omega)
 have g4 := grown_trans g3 hg4
 clear hf2 hr3 hz3 g3 hg4
 generalize w2.heap.size = F at hF hf4 ⊢
 go_wp2_with fail
 go_loopw [4] (fun i wr => ∃ (y : Int) (x : Value) (its : List It), i = .int .i64 y /\ 0 <= y /\ (its.length : Int) + y <= 4 /\ Hid (∀ y ∈ its, smI y) /\ OwnR 55 3 itC wr (F + 1) x its /\ Box wr F #[.string u, .string t, x] 26 /\ Box wr w.heap.size #[.string ⟨#[]⟩, .string ⟨#[]⟩, .slice none 0 0] 26 /\ Rd wr base rb cv zs /\ w.grownBy wr (some rb)) (fun i _ => (intOf i).toNat)
 case atStart => exact ⟨y, .slice none 0 0, [], rfl, hy0, by simp; omega, Lib.hid (by simp), OwnR.nil _ _ _, hf4, hz4, hr4, g4⟩
 case round =>
  clear hf4 hz4 hr4 g4 hy0 hy1
  obtain ⟨y, x, its, rfl, hy0, hy1, HS, hO, hfx, hzx, hrx, hgx⟩ := hrel
  by_cases hy : 0 < y
  ·go_wp2
   refine wp_region_T (fun _ => True) (fun w' => w'.cell? ⟨F, 2, none⟩ = some x) 6 (by kernel_rfl) 7 rfl ?_
   refine wpAnyT_takesB (md := .any) 4 (by kernel_rfl) (by intro d v c a w h; cases d <;> exact h) [0, 1, 2] _ _ _ (by decide) (by kernel_rfl) (by kernel_rfl) (by kernel_rfl) ⟨trivial, fun _ => hfx.cell 2 _ rfl⟩ ?_
   simp only [pick, List.filterMap_cons, List.filterMap_nil, List.getElem?_cons_zero, List.getElem?_cons_succ]
   refine wS (.pointer (some ⟨F, 2, none⟩)) (fun w hw => by go_simp) ?_
   refine wS x (fun w hw => by have e0 := hw.2; go_simp) ?_
   refine wS (.pointer (some ⟨rb, 0, none⟩)) (fun w hw => by go_simp) ?_
   refine wpIf_nil (fun hS => ?_)
   clear hS
   refine wO 3 3 (fun K hK => ?_)
   go_simp
   refine (item_any base rb cv zs _ (hrx.drewN 1)).mono ?_
   rintro e w4 ⟨it, rfl, hi1, hi2, hr5, hg5⟩
   have hf5 := Box.keepG (show Box (wr.drewN 1) F _ _ from hfx) hg5 (by omega)
   have hz5 := Box.keepG (show Box (wr.drewN 1) w.heap.size _ _ from hzx) hg5 (by omega)
   have hO5 := OwnR.keepG (show OwnR 55 3 itC (wr.drewN 1) (F + 1) x its from hO) hg5 (by omega)
   have g5 := grown_trans (grown_drewN hgx 1) hg5
   refine hK _ _ ⟨trivial, fun _ => hf5.cell 2 _ rfl⟩ (fun hS => ?_)
   clear hK K hS hfx hzx hO hgx hrx hg5
   refine wO 4 2 (fun K hK => ?_)
   go_simp
   refine (l8Put_any x its it _ (hO5.at itC_len) HS.out ⟨hi1, hi2⟩ (by omega)).mono ?_
   rintro e w5 ⟨r, os, rfl, hol, hos, hO6, hb6⟩
   have hFw := hf5.lt
   have hf6 := hf5.keep hb6 hf5.lt
   have hz6 := hz5.keep hb6 hz5.lt
   have hr6 := hr5.below hb6 hr5.lt
   have g6 := gw_below g5 hb6 g5.size
   refine hK _ _ ⟨trivial, fun _ => hf6.cell 2 _ rfl⟩ (fun hS => ?_)
   replace hO6 := hO6.base_mono (show F + 1 <= w4.heap.size by omega)
   clear hK K hS hf5 hz5 hO5 g5 hr5 hb6 hFw
   refine wO 5 1 (fun K hK => ?_)
   go_simp
   refine hK _ _ ⟨trivial, fun _ => hf6.cell 2 _ rfl⟩ (fun hS => ?_)
   clear hK K hS
   obtain ⟨ra, rc, rfl⟩ := hO6.slice
   have q2 := hf6.cell 2 _ rfl
   have qf := hf6.free 2
   refine wO 6 0 (fun K hK => ?_)
   go_simp
   have hf7 := hf6.set 2 (.slice ra os.length rc)
   change Box _ F #[.string u, .string t, .slice ra os.length rc] _ at hf7
   have hb7 : Below F w5 (w5.setCell ⟨F, 2, none⟩ (.slice ra os.length rc)) := (Below.refl _ w5).setCell (p := ⟨F, 2, none⟩) (Nat.le_refl _) _
   have hz7 := hz6.keep hb7 hF
   have hr7 := hr6.below hb7 (by omega)
   have g7 := gw_below g6 hb7 (by omega)
   have hO7 := hO6.other ⟨F, 2, none⟩ (.slice ra os.length rc) (Nat.lt_succ_self _)
   refine hK _ _ ⟨trivial, fun h => by exact absurd h (by decide)⟩ (fun hS => ?_)
   clear hK K hS hf6 hz6 hr6 g6 hO6 hb7 q2 qf
   generalize w5.setCell ⟨F, 2, none⟩ (.slice ra os.length rc) = w7 at hf7 hz7 hr7 g7 hO7 ⊢
   refine wpAnyT_over (by kernel_rfl) ?_
   have hyw : IntKind.i64.wrap (y - 1) = y - 1 := IntWalk.i64_in _ (by omega)
   go_wp2
   go_roundw
   case rel => exact ⟨y - 1, _, os, by first | rfl | rw [hyw], by omega, by omega, Lib.hid hos, hO7, hf7, hz7, hr7, g7⟩
   case measure => simp [intOf]; omega
  ·have hy2 : y = 0 := by omega
   subst hy2
   clear hy hy0
   obtain ⟨xa, xc, rfl⟩ := hO.slice
   have c0 := hfx.cell 0 _ rfl
   have c1 := hfx.cell 1 _ rfl
   have c2 := hfx.cell 2 _ rfl
   have z0 := hzx.cell 0 _ rfl
   have z1 := hzx.cell 1 _ rfl
   have z2 := hzx.cell 2 _ rfl
   have zf0 := hzx.free 0
   have zf1 := hzx.free 1
   have zf2 := hzx.free 2
   go_wp2
   have q1 := Box.set hzx 0 (.string u)
   have q2 := Box.set q1 1 (.string t)
   have q3 := Box.set q2 2 (.slice xa its.length xc)
   have hb3 : Below w.heap.size wr (((wr.setCell ⟨w.heap.size, 0, none⟩ (.string u)).setCell ⟨w.heap.size, 1, none⟩ (.string t)).setCell ⟨w.heap.size, 2, none⟩ (.slice xa its.length xc)) := below3 _ _ _ (Nat.le_refl _) _ _ _
   have r3 := hrx.below hb3 hrb
   have g3 := gw_below hgx hb3 (Nat.le_refl _)
   have o3 := ((hO.other ⟨w.heap.size, 0, none⟩ (.string u) (by show w.heap.size < F + 1; omega)).other ⟨w.heap.size, 1, none⟩ (.string t) (by show w.heap.size < F + 1; omega)).other ⟨w.heap.size, 2, none⟩ (.slice xa its.length xc) (by show w.heap.size < F + 1; omega)
   change Box _ w.heap.size #[.string u, .string t, .slice xa its.length xc] _ at q3
   generalize ((wr.setCell ⟨w.heap.size, 0, none⟩ (.string u)).setCell ⟨w.heap.size, 1, none⟩ (.string t)).setCell ⟨w.heap.size, 2, none⟩ (.slice xa its.length xc) = W5 at q3 r3 g3 o3 ⊢
   have d0 := cell_of_cells (i := 0) q3 rfl
   have d1 := cell_of_cells (i := 1) q3 rfl
   have d2 := cell_of_cells (i := 2) q3 rfl
   exact bodyPost_ret (v := fV u t (.slice xa its.length xc)) (by simp [results, Tryz.results45, go_sem, d0, d1, d2]) rfl ⟨u, t, _, its, rfl, hu, ht, by omega, HS.out, o3.base_mono (by omega), r3, g3⟩
end Go.Proofs.YtffkakpbelknaaaGreatDoor
