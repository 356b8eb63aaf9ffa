/- Parts of the proof. -/
import Derived.Maps.AppendAt
import Derived.Test.YtffkakpbelknaaaGreatDoorO2
import Derived.Test.YtffkakpbelknaaaGreatDoorO3
namespace Go.Proofs.YtffkakpbelknaaaGreatDoor
set_option maxHeartbeats 4000000
set_option maxRecDepth 100000
open Go.ChangeShapes Go.WideShapes Go.ChangeAt Go.RowKit
set_option linter.unusedVariables false
theorem grown_trans {w w1 w2 : World} {row : Option Nat} (h : w.grownBy w1 row) (k : w1.grownBy w2 row) : w.grownBy w2 row :=
 ⟨k.os.trans h.os, k.tape.trans h.tape, k.output.trans h.output, Nat.le_trans h.size k.size, fun i hi hn => (k.block i (Nat.lt_of_lt_of_le hi h.size) hn).trans (h.block i hi hn)⟩
theorem below_of_grown {B : Nat} {w w1 : World} {rb : Nat} (h : w.grownBy w1 (some rb)) (hB : B <= rb) (hs : B <= w.heap.size) : Below B w w1 :=
 ⟨h.os, h.tape, h.output, h.size, fun i hi => h.block i (by omega) (fun e => by have : i = rb := by simpa using e
                                                                                omega)⟩
theorem grown_drewN {w w1 : World} {row : Option Nat} (h : w.grownBy w1 row) (n : Nat) : w.grownBy (w1.drewN n) row := ⟨h.os, h.tape, h.output, h.size, h.block⟩
theorem grown_setCell (w : World) (b o : Nat) (u : Value) : w.grownBy (w.setCell ⟨b, o, none⟩ u) (some b) :=
 ⟨rfl, rfl, rfl, by simp [World.setCell], fun k _ hk => Below.heap_setCell _ _ _ _ (fun e => hk (by rw [e]))⟩
theorem ownsRow_grown {w w' : World} {base : Nat} {e t : TypeId} {size n rb : Nat} {v : Value} {xs : List Value} {cs : Array Value} {fr : Nat × Nat} (h : w.ownsRow base e size v n xs) (hg : w.grownBy w' (some rb)) (hrb : w.heap[rb]? = some (.cells cs t fr)) (hne : e ≠ t) : w'.ownsRow base e size v n xs := by
 refine ⟨h.1, ?_⟩
 rcases h.2 with h2 | ⟨g, cap, cur, hv, hgb, hh, r⟩
 ·exact .inl h2
 ·have hlt : g < w.heap.size := by
   rcases Nat.lt_or_ge g w.heap.size with hlt | hge
   ·exact hlt
   ·rw [Array.getElem?_eq_none hge] at hh; cases hh
  refine .inr ⟨g, cap, cur, hv, hgb, ?_, r⟩
  rw [hg.block g hlt ?_]
  ·exact hh
  ·intro e1
   have : g = rb := by simpa using e1
   subst this
   rw [hh] at hrb
   simp at hrb
   exact hne hrb.2.1
structure Rd (w : World) (base rb : Nat) (cv : Value) (zs : List Int) : Prop where
 row : RowAt .u8 w base cv zs
 bytes : ∀ z ∈ zs, 0 <= z /\ z <= 255
 blk : ∃ p : Nat, p <= zs.length /\ w.heap[rb]? = some (.cells #[cv, .int .i64 p] 114 (0, 0))
 base_le : base <= rb
theorem Rd.lt {w : World} {base rb : Nat} {cv : Value} {zs : List Int} (h : Rd w base rb cv zs) : rb < w.heap.size := by
 obtain ⟨p, _, hb⟩ := h.blk
 exact (Array.getElem?_eq_some_iff.1 hb).1
theorem Rd.below {w w' : World} {base rb B : Nat} {cv : Value} {zs : List Int} (h : Rd w base rb cv zs) (hb : Below B w w') (hB : rb < B) : Rd w' base rb cv zs := by
 obtain ⟨p, hp, hblk⟩ := h.blk
 exact ⟨h.row.below (hb.mono (Nat.le_trans h.base_le (Nat.le_of_lt hB))), h.bytes, ⟨p, hp, by rw [hb.block rb hB]; exact hblk⟩, h.base_le⟩
theorem Rd.drewN {w : World} {base rb : Nat} {cv : Value} {zs : List Int} (h : Rd w base rb cv zs) (n : Nat) : Rd (w.drewN n) base rb cv zs := ⟨h.row, h.bytes, h.blk, h.base_le⟩
theorem Rd.alloc {w : World} {base rb : Nat} {cv : Value} {zs : List Int} (h : Rd w base rb cv zs) (o : Obj) : Rd (w.alloc o) base rb cv zs :=
 h.below ((Below.refl _ w).alloc (Nat.le_refl _) o) h.lt
theorem Rd.own {w w' : World} {base rb b : Nat} {cv v : Value} {zs : List Int} {l : List UInt8} (h : Rd w base rb cv zs) (ho : OwnB w b v l) (hg : w.grownBy w' (some rb)) : OwnB w' b v l := by
 obtain ⟨p, _, hblk⟩ := h.blk
 exact ownsRow_grown ho hg hblk (by decide)
theorem cell_two {w : World} {rb : Nat} {x y : Value} {t : TypeId} (h : w.heap[rb]? = some (.cells #[x, y] t (0, 0))) : w.cell? ⟨rb, 0, none⟩ = some x /\ w.cell? ⟨rb, 1, none⟩ = some y /\ w.frozen? ⟨rb, 1, none⟩ = false := by
 simp [World.cell?, World.frozen?, h]
theorem set_two {w : World} {rb : Nat} {x y : Value} {t : TypeId} (z : Value) (h : w.heap[rb]? = some (.cells #[x, y] t (0, 0))) : (w.setCell ⟨rb, 1, none⟩ z).heap[rb]? = some (.cells #[x, z] t (0, 0)) := by
 obtain ⟨hlt, hk⟩ := Array.getElem?_eq_some_iff.1 h
 show (w.heap.modify rb _)[rb]? = _
 rw [Array.getElem?_eq_getElem (by rw [Array.size_modify]; exact hlt), Array.getElem_modify_self, hk]
 rfl
theorem next_any (base rb : Nat) (cv : Value) (zs : List Int) (w : World) (h : Rd w base rb cv zs) :
  Calls Tryz.prog 127 #[.pointer (some ⟨rb, 0, none⟩)] w fun e w' => ∃ n : Int, e = .returned (.int .i64 n) /\ 0 <= n /\ n <= 255 /\ Rd w' base rb cv zs /\ w.grownBy w' (some rb) := by
 have H := Lib.hid h
 obtain ⟨p, hp, hblk⟩ := h.blk
 obtain ⟨a, cap, rfl, hl, hm, hc⟩ := h.row
 unfold maxLen at hm
 obtain ⟨c0, c1, f1⟩ := cell_two hblk
 have HC := Lib.hid hc
 have HB := Lib.hid hblk
 clear hc hblk h
 by_cases hlt : p < zs.length
 ·obtain ⟨b, o, rfl, hb, hr⟩ := HC.out p hlt
  obtain ⟨x, hx⟩ : ∃ x, x = zs[p] := ⟨_, rfl⟩
  have hxb := H.out.bytes zs[p] (List.getElem_mem hlt)
  rw [<- hx] at hxb
  obtain ⟨hx0, hx1⟩ := hxb
  have cx : w.cell? ⟨b, o + p, none⟩ = some (.int .u8 x) := by rw [hr p hlt]; simp [hlt, hx]
  have hne : b ≠ rb := by have := H.out.base_le; omega
  have cx2 : (w.setCell ⟨rb, 1, none⟩ (.int .i64 ((p : Int) + 1))).cell? ⟨b, o + p, none⟩ = some (.int .u8 x) := by
   rw [World.cell?_of_block (w := w) (Below.heap_setCell _ _ _ _ hne)]; exact cx
  have HB2 := Lib.hid (set_two (.int .i64 ((p : Int) + 1)) HB.out)
  obtain ⟨d0, d1, _⟩ := cell_two HB2.out
  have hg := grown_setCell w rb 1 (.int .i64 ((p : Int) + 1))
  have hrow2 := H.out.row.below (below_of_grown hg H.out.base_le (by have := H.out.lt; have := H.out.base_le; omega))
  have HR2 := Lib.hid hrow2
  have HG := Lib.hid hg
  clear hx hr hg hrow2
  go_enter Tryz.func127, Tryz.ntmps127
  go_wp2
  go_quiet (fail)
  go_wp2
  have kp : (p : Int) + 1 - 1 = (p : Int) := by omega
  have kp2 : 0 <= (p : Int) + 1 - 1 := by omega
  have kp3 : IntKind.i64.wrap ((p : Int) + 1 - 1) = (p : Int) := by rw [kp]; exact IntWalk.i64_in _ (by omega)
  go_quiet (fail)
  go_wp2
  go_ret
  exact ⟨x, rfl, hx0, hx1, ⟨HR2.out, H.out.bytes, ⟨p + 1, by omega, HB2.out⟩, H.out.base_le⟩, ⟨HG.out.os, HG.out.tape, HG.out.output, HG.out.size, HG.out.block⟩⟩
 ·go_enter Tryz.func127, Tryz.ntmps127
  go_wp2
  go_quiet (fail)
  go_wp2
  go_ret
  exact ⟨0, rfl, by omega, by omega, H.out.drewN _, grown_drewN (World.grownBy.refl _ _) _⟩
theorem below_any (n : Int) (base rb : Nat) (cv : Value) (zs : List Int) (w : World) (h : Rd w base rb cv zs) (hn0 : 1 <= n) (hn1 : n <= 1000000000) :
  Calls Tryz.prog 91 #[.pointer (some ⟨rb, 0, none⟩), .int .i64 n] w fun e w' => ∃ r : Int, e = .returned (.int .i64 r) /\ 0 <= r /\ r < n /\ Rd w' base rb cv zs /\ w.grownBy w' (some rb) := by
 by_cases h1 : n <= 1
 ·have H := Lib.hid h
  clear h
  go_enter Tryz.func91, Tryz.ntmps91
  go_wp2
  go_ret
  exact ⟨0, rfl, by omega, by omega, H.out, World.grownBy.refl _ _⟩
 ·by_cases h2 : n <= 256
  ·go_enter Tryz.func91, Tryz.ntmps91
   go_wp2_with fail
   refine (next_any base rb cv zs _ h).mono ?_
   rintro e w1 ⟨x, rfl, hx0, hx1, hr1, hg1⟩
   go_wp2
   go_ret
   exact ⟨_, rfl, Int.emod_nonneg _ (by omega), Int.emod_lt_of_pos _ (by omega), hr1, hg1⟩
  ·go_enter Tryz.func91, Tryz.ntmps91
   go_wp2_with fail
   refine (next_any base rb cv zs _ h).mono ?_
   rintro e w1 ⟨x, rfl, hx0, hx1, hr1, hg1⟩
   go_wp2_with fail
   refine (next_any base rb cv zs _ hr1).mono ?_
   rintro e w2 ⟨y, rfl, hy0, hy1, hr2, hg2⟩
   go_wp2
   go_ret
   exact ⟨_, rfl, Int.emod_nonneg _ (by omega), Int.emod_lt_of_pos _ (by omega), hr2, grown_trans hg1 hg2⟩
theorem once_any (n : Int) (base rb : Nat) (cv : Value) (zs : List Int) (w : World) (h : Rd w base rb cv zs) (hn0 : 1 <= n) (hn1 : n <= 1000000000) :
  Calls Tryz.prog 46 #[.pointer (some ⟨rb, 0, none⟩), .int .i64 n] w fun e w' => ∃ b : Bool, e = .returned (.bool b) /\ Rd w' base rb cv zs /\ w.grownBy w' (some rb) := by
 go_enter Tryz.func46, Tryz.ntmps46
 go_wp2_with fail
 refine (below_any n base rb cv zs _ h hn0 hn1).mono ?_
 rintro e w1 ⟨x, rfl, hx0, hx1, hr1, hg1⟩
 go_wp2
 go_ret
 exact ⟨_, rfl, hr1, hg1⟩
theorem word_any (base rb : Nat) (cv : Value) (zs : List Int) (w : World) (h : Rd w base rb cv zs) :
  Calls Tryz.prog 160 #[.pointer (some ⟨rb, 0, none⟩)] w fun e w' => ∃ x : Int, e = .returned (.int .u64 x) /\ (Lit.int .u64 x).wf = true /\ Rd w' base rb cv zs /\ w.grownBy w' (some rb) := by
 go_enter Tryz.func160, Tryz.ntmps160
 go_wp2
 go_loopw [3, 4] (fun c i wr => ∃ (k : Nat) (x : Int), k <= 8 /\ i = .int .i64 k /\ c = .int .u64 x /\ Hid ((Lit.int .u64 x).wf = true) /\ Rd wr base rb cv zs /\ w.grownBy wr (some rb))
  (fun _ i _ => 8 - (intOf i).toNat)
 case atStart => exact ⟨0, 0, Nat.zero_le _, rfl, rfl, Lib.hid (by decide), h, World.grownBy.refl _ _⟩
 case round =>
  obtain ⟨k, x, hk, rfl, rfl, hx, hr, hg⟩ := hrel
  clear h
  by_cases hlt : k < 8
  ·go_wp2_with fail
   refine (next_any base rb cv zs _ hr).mono ?_
   rintro e w1 ⟨y, rfl, hy0, hy1, hr1, hg1⟩
   have hg2 := grown_trans hg hg1
   clear hr hg hg1
   go_wp2
   go_roundw
   case rel => exact ⟨k + 1, _, by omega, by go_num, rfl, Lib.hid (wf_bits _ _ _ _), hr1, hg2⟩
   case measure => simp [intOf]; omega
  ·go_wp2
   go_ret
   exact ⟨x, rfl, hx.out, hr, hg⟩
theorem near_mod (x d : Int) (hx : (Lit.int .u64 x).wf = true) (hd : 1 <= d) : 0 <= x / 2 % d /\ x / 2 % d < d := ⟨Int.emod_nonneg _ (by omega), Int.emod_lt_of_pos _ (by omega)⟩
theorem near_any (low high : Int) (base rb : Nat) (cv : Value) (zs : List Int) (w : World) (h : Rd w base rb cv zs) (h0 : -1000000000000 <= low) (h1 : low <= high) (h2 : high <= 1000000000000) :
  Calls Tryz.prog 129 #[.pointer (some ⟨rb, 0, none⟩), .int .i64 low, .int .i64 high] w fun e w' => ∃ r : Int, e = .returned (.int .i64 r) /\ low <= r /\ r <= high /\ Rd w' base rb cv zs /\ w.grownBy w' (some rb) := by
 go_enter Tryz.func129, Tryz.ntmps129
 go_wp2_with fail
 refine (below_any 8 base rb cv zs _ h (by omega) (by omega)).mono ?_
 rintro e w1 ⟨x, rfl, hx0, hx1, hr1, hg1⟩
 by_cases e0 : x = 0
 ·subst e0
  go_wp2
  go_ret
  exact ⟨_, rfl, by omega, by omega, hr1, hg1⟩
 ·have b0 : (x == 0) = false := by simpa using e0
  by_cases e1 : x = 1
  ·subst e1
   go_wp2
   go_ret
   exact ⟨_, rfl, by omega, by omega, hr1, hg1⟩
  ·have b1 : (x == 1) = false := by simpa using e1
   go_wp2_with fail
   refine (word_any base rb cv zs _ hr1).mono ?_
   rintro e w2 ⟨y, rfl, hy, hr2, hg2⟩
   have hyb := bounds_u64 hy
   obtain ⟨m0, m1⟩ := near_mod y (high - low + 1) hy (by omega)
   obtain ⟨y0, _⟩ := hyb
   have HY := Lib.hid hy
   clear hy
   go_wp2
   go_ret
   exact ⟨_, rfl, by omega, by omega, hr2, grown_trans hg1 hg2⟩
end Go.Proofs.YtffkakpbelknaaaGreatDoor
namespace Go.Proofs.YtffkakpbelknaaaGreatDoor
open Go.ChangeShapes Go.WideShapes Go.ChangeAt Go.RowKit
set_option linter.unusedVariables false
theorem cell_of_cells {w : World} {b i : Nat} {cs : Array Value} {t : TypeId} {fr : Nat × Nat} {v : Value} (h : w.heap[b]? = some (.cells cs t fr)) (hi : cs[i]? = some v) : w.cell? ⟨b, i, none⟩ = some v := by
 rw [cell_of_row w b i cs t fr h]; exact hi
theorem off_any (low high : Int) (base rb : Nat) (cv : Value) (zs : List Int) (w : World) (h : Rd w base rb cv zs) (h0 : -1000000000000 <= low) (h1 : low <= high) (h2 : high <= 1000000000000) :
  Calls Tryz.prog 99 #[.pointer (some ⟨rb, 0, none⟩), .int .i64 low, .int .i64 high] w fun e w' => ∃ r : Int, e = .returned (.int .i64 r) /\ (Lit.int .i64 r).wf = true /\ Rd w' base rb cv zs /\ w.grownBy w' (some rb) := by
 go_enter Tryz.func99, Tryz.ntmps99
 go_wp2_with fail
 refine (once_any 24 base rb cv zs _ h (by omega) (by omega)).mono ?_
 rintro e w1 ⟨b, rfl, hr1, hg1⟩
 cases b with
 | false =>
  go_wp2_with fail
  refine (near_any low high base rb cv zs _ hr1 h0 h1 h2).mono ?_
  rintro e w2 ⟨r, rfl, hr0, hr2, hrd2, hg2⟩
  go_wp2
  go_ret
  exact ⟨_, rfl, by simp [Lit.wf, IntKind.min, IntKind.max, IntKind.signed, IntKind.bits]; omega, hrd2, grown_trans hg1 hg2⟩
 | true =>
  go_wp2_with fail
  refine (below_any 4 base rb cv zs _ (hr1.alloc _) (by omega) (by omega)).mono ?_
  rintro e w2 ⟨x, rfl, hx0, hx1, hr2, hg2⟩
  have hlt := hr1.lt
  have hblk : w2.heap[w1.heap.size]? = some (.cells #[.int .i64 (low - 1), .int .i64 (high + 1), .int .i64 (-9223372036854775808), .int .i64 9223372036854775807] 2 (0, 0)) := by
   rw [hg2.block w1.heap.size (by simp) (by simp; omega)]; exact heap_alloc_new w1 _
  have c0 := cell_of_cells (i := 0) hblk rfl
  have c1 := cell_of_cells (i := 1) hblk rfl
  have c2 := cell_of_cells (i := 2) hblk rfl
  have c3 := cell_of_cells (i := 3) hblk rfl
  have hg3 := grown_trans (grown_trans hg1 (World.grownBy_alloc w1 _ (some rb))) hg2
  clear hblk hg2 hg1
  rcases (show x = 0 \/ x = 1 \/ x = 2 \/ x = 3 by omega) with rfl | rfl | rfl | rfl
  ·clear c1 c2 c3
   go_wp2
   go_ret
   exact ⟨_, rfl, by simp [Lit.wf, IntKind.min, IntKind.max, IntKind.signed, IntKind.bits]; omega, hr2, hg3⟩
  ·clear c0 c2 c3
   go_wp2
   go_ret
   exact ⟨_, rfl, by simp [Lit.wf, IntKind.min, IntKind.max, IntKind.signed, IntKind.bits]; omega, hr2, hg3⟩
  ·clear c1 c0 c3
   go_wp2
   go_ret
   exact ⟨_, rfl, by decide, hr2, hg3⟩
  ·clear c1 c2 c0
   go_wp2
   go_ret
   exact ⟨_, rfl, by decide, hr2, hg3⟩
theorem byte_cells (x : Int) (h0 : 0 <= x) (h1 : x < 256) : (#[Value.int .u8 x] : Array Value).toList = [UInt8.ofNat x.toNat].map bc := by
 have : ((UInt8.ofNat x.toNat).toNat : Int) = x := by
  rw [UInt8.toNat_ofNat', Nat.mod_eq_of_lt (by simp; omega)]; omega
 show [Value.int .u8 x] = [bc _]
 unfold bc; rw [this]
theorem open_any (cv : Value) (a : Option Addr) (len cap : Nat) (hcv : cv = .slice a len cap) (w : World) :
  Calls Tryz.prog 44 #[cv] w fun e w' => e = .returned (.pointer (some ⟨w.heap.size, 0, none⟩)) /\ w' = w.alloc (.cells #[cv, .int .i64 0] 114) := by
 subst hcv
 go_enter Tryz.func44, Tryz.ntmps44
 go_wp2
 go_ret
 exact ⟨rfl, rfl⟩
def Cd (w : World) (cv : Value) (zs : List Int) : Prop := RowAt .u8 w w.heap.size cv zs /\ ∀ z ∈ zs, 0 <= z /\ z <= 255
theorem Cd.of_row {w : World} {a : Option Addr} {len cap : Nat} {z : List Int} (h : IsRow .u8 w a len cap z) : Cd w (.slice a len cap) (z.take len) := by
 obtain ⟨_, hr, hw⟩ := h.row
 exact ⟨hr, fun n hn => bounds_u8 (hw n hn)⟩
theorem Cd.below {w w' : World} {cv : Value} {zs : List Int} (h : Cd w cv zs) (hb : Below w.heap.size w w') : Cd w' cv zs := ⟨(h.1.below hb).mono hb.size, h.2⟩
theorem Cd.rd {w : World} {cv : Value} {zs : List Int} (h : Cd w cv zs) : Rd (w.alloc (.cells #[cv, .int .i64 0] 114)) w.heap.size w.heap.size cv zs :=
 ⟨h.1.below ((Below.refl _ w).alloc (Nat.le_refl _) _), h.2, ⟨0, Nat.zero_le _, heap_alloc_new w _⟩, Nat.le_refl _⟩
theorem below_open {w w' : World} {o : Obj} (hg : (w.alloc o).grownBy w' (some w.heap.size)) : Below w.heap.size w w' :=
 ((Below.refl _ w).alloc (Nat.le_refl _) o).trans (below_of_grown hg (Nat.le_refl _) (by simp))
theorem Cd.form {w : World} {cv : Value} {zs : List Int} (h : Cd w cv zs) : ∃ a len cap, cv = .slice a len cap := by
 obtain ⟨a, cap, hv, _⟩ := h.1
 exact ⟨a, _, cap, hv⟩
theorem big_any (w : World) (cv : Value) (zs : List Int) (h : Cd w cv zs) :
  Calls Tryz.prog 6 #[cv] w fun e w' => (∃ b, e = .returned (.bool b)) /\ w = w' := by
 obtain ⟨a, cap, rfl, hl, hm, _⟩ := h.1
 unfold maxLen at hm
 clear h
 go_enter Tryz.func6, Tryz.ntmps6
 go_wp2
 go_ret
 exact ⟨⟨_, rfl⟩, rfl⟩
end Go.Proofs.YtffkakpbelknaaaGreatDoor
namespace Go.Proofs.YtffkakpbelknaaaGreatDoor
open Go.ChangeShapes Go.WideShapes Go.ChangeAt Go.RowKit
set_option linter.unusedVariables false
end Go.Proofs.YtffkakpbelknaaaGreatDoor
