/- Joined: Own, W1a. -/
import Derived.Test.YtlipgmaiooljkaaGreatDoorRows
import Derived.WalkKit
import Derived.ProofKit
import Derived.OpenShut
import Derived.Lib.Hide
import Derived.Deep.RegionLaw
import Derived.Deep.AppendLies
import Derived.Deep.QuietTactic
import Derived.BigQuiet
import Derived.Test.YtlipgmaiooljkaaGreatDoorH2
/- Own -/
namespace Go.Proofs.YtlipgmaiooljkaaGreatDoor
open Go.RowKit

/-- What a walk is told of a slice of whole numbers that came in. -/
def IsRow (k : IntKind) (w : World) (a : Option Addr) (len cap : Nat) (zs : List Int) : Prop :=
  (a = none ∧ len = 0 ∧ cap = 0 ∧ zs = []) ∨
  ∃ x, a = some x ∧ len ≤ cap ∧ cap ≤ maxLen ∧ zs.length = cap ∧ (∀ i, i < zs.length → w.cell? (x.add i) = some (.int k (zs.getD i 0))) ∧ ∀ n ∈ zs, (Lit.int k n).wf = true

theorem Tryz.infoU8 : (Tryz.prog.info? 5).map (fun i => (i.zero, i.size, i.bytes)) = some (some (.int .u8 0), 1, 1) := by kernel_rfl

/-- v owns the bytes l, in a row of the call's own (blocks from 'base' on). -/
def OwnB (w : World) (base : Nat) (v : Value) (l : List UInt8) : Prop := w.ownsRow base 5 1 v l.length (l.map bc)

theorem OwnB.alloc {w : World} {base : Nat} {v : Value} {l : List UInt8} (h : OwnB w base v l) (o : Obj) : OwnB (w.alloc o) base v l := World.ownsRow.alloc h o
theorem OwnB.drew {w : World} {base : Nat} {v : Value} {l : List UInt8} (h : OwnB w base v l) : OwnB w.drew base v l := h

theorem OwnB.drewN {w : World} {base : Nat} {v : Value} {l : List UInt8} (h : OwnB w base v l) (n : Nat) : OwnB (w.drewN n) base v l := h
theorem below_drewN {B : Nat} {a w : World} (h : Below B a w) (n : Nat) : Below B a (w.drewN n) := ⟨h.os, h.tape, h.output, h.size, h.block⟩

/-- A callee that leaves the world alone, met in a region that only reads. -/
theorem quiet_same {P : Program} {f : FuncId} {args : Array Value} {w : World} {n : Nat} {v : Value}
    (h : Calls P f args (w.drewN n) fun e w' => e = .returned v ∧ w.drewN n = w') : Calls P f args (w.drewN n) fun e w'' => e = .returned v ∧ ∃ m, w'' = w.drewN m :=
  h.mono fun _ _ ⟨he, hm⟩ => ⟨he, n, hm.symm⟩

theorem OwnB.lit (w : World) (base : Nat) (hb : base ≤ w.heap.size) : OwnB (w.alloc (.cells #[] 5)) base (.slice (some ⟨w.heap.size, 0, none⟩) 0 0) [] :=
  World.ownsRow_lit w #[] 0 hb (by decide) rfl

theorem bc_oneCell (l : List UInt8) : ∀ u ∈ l.map bc, u.oneCell' = true := by
  intro u hu
  obtain ⟨_, _, rfl⟩ := List.mem_map.1 hu
  rfl

theorem ownBlock_base {w : World} {base : Nat} {e : TypeId} {size : Nat} {v : Value} {n : Nat} {xs : List Value} (h : w.ownsRow base e size v n xs) : ∀ k, v.ownBlock = some k → base ≤ k := by
  intro k hk
  rcases h.2 with ⟨rfl, _⟩ | ⟨g, cap, cur, rfl, hb, _⟩
  · cases hk
  · simp [Value.ownBlock] at hk; omega

/-- append(out, c, ..) of new bytes that lie in a block of their own, at a step of a region that draws. -/
theorem step_appB {w : World} {ops : Array Oper} {o : Oper} {a : Act} {K : Act → World → Prop} {Q : Exit → Act → World → Prop} {E : Prop} (hgd : o.guard = none) (s x : Operand)
    (ho : o.op = .call { callee := .builtin .append, args := #[s, x], argTypes := #[36, 36] })
    (base : Nat) (v : Value) (l : List UInt8) (hs : a.eval s = v) (hown : OwnB w base v l)
    (B m : Nat) (cs : Array Value) (fr : Nat × Nat) (news : List UInt8) (hx : a.eval x = .slice (some ⟨B, 0, none⟩) m m) (hb : w.heap[B]? = some (.cells cs 5 fr)) (hcs : cs.toList = news.map bc) (hm : news.length = m) (hm0 : 0 < m)
    (hl : l.length + m ≤ 1000000000) (hbase : base ≤ w.heap.size)
    (h : ∀ v' w', OwnB w' base v' (l ++ news) → Below base w w' → K (a.put o.dst v') w') :
    if Region.wanted o (yielded ops a.tmps) = true then Oper.wp Tryz.prog o a w K Q else E := by
  obtain ⟨i0, hi, hz0, hz1, hz2⟩ := info_parts Tryz.infoU8
  refine step_append_lies w hgd s x 36 ho base 5 i0 (.int .u8 0) 1 1 Tryz.underlying36 hi hz0 hz1 hz2 rfl (by decide) v l.length (l.map bc) hs hown ⟨B, 0, none⟩ m m (news.map bc) hx (by simp [hm]) (by rw [← hcs]; exact World.news_of_block hb) (bc_oneCell _) hm0 (by unfold maxLen; omega) (by omega) hbase _ rfl ?_
  intro g cap w1 hown1 hgrow _ _
  refine h _ _ ?_ ((Below.refl _ _).grown hgrow hbase (ownBlock_base hown))
  have e : (l ++ news).length = l.length + m := by simp [hm]
  unfold OwnB
  rw [e, List.map_append]
  exact hown1

/-- The same where the region has one order. -/
theorem wpList_appB {w : World} {ops : Array Oper} {rest : List Oper} {o : Oper} {a : Act} {Q : Exit → Act → World → Prop} (hgd : o.guard = none) (s x : Operand)
    (ho : o.op = .call { callee := .builtin .append, args := #[s, x], argTypes := #[36, 36] })
    (base : Nat) (v : Value) (l : List UInt8) (hs : a.eval s = v) (hown : OwnB w base v l)
    (B m : Nat) (cs : Array Value) (fr : Nat × Nat) (news : List UInt8) (hx : a.eval x = .slice (some ⟨B, 0, none⟩) m m) (hb : w.heap[B]? = some (.cells cs 5 fr)) (hcs : cs.toList = news.map bc) (hm : news.length = m) (hm0 : 0 < m)
    (hl : l.length + m ≤ 1000000000) (hbase : base ≤ w.heap.size)
    (h : ∀ v' w', OwnB w' base v' (l ++ news) → Below base w w' → wpList Tryz.prog ops Q rest (a.put o.dst v') w') :
    wpList Tryz.prog ops Q (o :: rest) a w := by
  obtain ⟨i0, hi, hz0, hz1, hz2⟩ := info_parts Tryz.infoU8
  refine wpList_append_lies w hgd s x 36 ho base 5 i0 (.int .u8 0) 1 1 Tryz.underlying36 hi hz0 hz1 hz2 rfl (by decide) v l.length (l.map bc) hs hown ⟨B, 0, none⟩ m m (news.map bc) hx (by simp [hm]) (by rw [← hcs]; exact World.news_of_block hb) (bc_oneCell _) hm0 (by unfold maxLen; omega) (by omega) hbase _ rfl ?_
  intro g cap w1 hown1 hgrow _ _
  refine h _ _ ?_ ((Below.refl _ _).grown hgrow hbase (ownBlock_base hown))
  have e : (l ++ news).length = l.length + m := by simp [hm]
  unfold OwnB
  rw [e, List.map_append]
  exact hown1

/-- make([]byte, 0, n) -/
theorem wpList_makeB {w : World} {ops : Array Oper} {rest : List Oper} {o : Oper} {a : Act} {Q : Exit → Act → World → Prop}
    (hg : o.guard = none) (l c : Operand) (hop : o.op = Op.makeSlice 36 l c) (base : Nat) (kl kc : IntKind) (C : Int)
    (hl : a.eval l = .int kl 0) (hc : a.eval c = .int kc C) (hC0 : 0 ≤ C) (hC : C ≤ 1000000000) (hbase : base ≤ w.heap.size)
    (hK : ∀ v' w', OwnB w' base v' [] → Below base w w' → wpList Tryz.prog ops Q rest (a.put o.dst v') w') :
    wpList Tryz.prog ops Q (o :: rest) a w := by
  obtain ⟨i0, hi, hz0, hz1, hz2⟩ := info_parts Tryz.infoU8
  refine wpList_make_own w hg l c 36 hop base 5 i0 (.int .u8 0) 1 Tryz.underlying36 hi hz0 hz1 kl kc C C.toNat hl hc (by omega) (by rw [hz2]; omega) (by unfold maxLen; omega) hbase ?_
  intro w1 hown hgrow
  exact hK _ _ hown ((Below.refl _ _).grown hgrow hbase (fun k hk => by cases hk))

/-- string(out) -/
theorem conv_ownB {w : World} {base : Nat} {v : Value} {l : List UInt8} (h : OwnB w base v l) :
    (convert 36 9 v).run Tryz.prog w = .ok (.string ⟨l.toArray⟩) w := by
  rcases h.2 with ⟨rfl, h0⟩ | ⟨g, cap, cur, rfl, hb, hg, hn, hm, hsz, ht⟩
  · have : l = [] := List.eq_nil_of_length_eq_zero h0
    subst this
    rw [run_convert_bytes_string w 36 9 5 none 0 0 Tryz.underlying36 Tryz.underlying5 Tryz.underlying9]
    rfl
  · refine run_convert_bytes_back w 36 9 5 ⟨g, 0, none⟩ cap l Tryz.underlying36 Tryz.underlying5 Tryz.underlying9 ?_
    intro j hj
    have := World.ownsRow.cellAt h j (by omega)
    rw [Addr.add_lit, Nat.zero_add, this]
    simp [bc, hj]
end Go.Proofs.YtlipgmaiooljkaaGreatDoor

/- W1a -/
namespace Go.Proofs.YtlipgmaiooljkaaGreatDoor
open Go.ChangeShapes Go.WideShapes Go.ChangeAt Go.RowKit

theorem rot32_any (x k : Int) (hk0 : 0 ≤ k) (hk : k ≤ 31) (w : World) :
    Calls Tryz.prog 186 #[.int .u32 x, .int .i64 k] w fun e w' => e = .returned (.int .u32 (rot x k)) ∧ w = w' := by
  have h := and31 k hk0 hk
  go_enter Tryz.func186, Tryz.ntmps186
  go_wp2
  go_ret
  exact ⟨rfl, rfl⟩

theorem wordTest (x : Int) : (decide (0 ≤ x) && decide (x ≤ 4294967295)) = decide (0 ≤ x ∧ x ≤ 4294967295) := by simp

/-- Rotl, as the document says it. -/
def rotR (x k : Int) : Int := if 0 ≤ x ∧ x ≤ 4294967295 ∧ 0 ≤ k ∧ k ≤ 31 then rot x k else -1

set_option maxHeartbeats 400000 in
theorem l1Xor_any (a b : ByteArray) (w : World) (ha : a.size ≤ 100000000) (hb : a.size ≤ b.size) (hm : b.size ≤ maxLen) :
    Calls Tryz.prog 64 #[.string a, .string b] w fun e w' => e = .returned (.string (xorB a b)) ∧ Below w.heap.size w w' := by
  unfold maxLen at hm
  have hlen : (xorL a.data.toList b.data.toList).length = a.size := by simpa using xorL_len a.data.toList b.data.toList (by simpa using hb)
  have HL := Lib.hid hlen
  clear hlen
  go_enter Tryz.func64, Tryz.ntmps64
  go_wp2
  go_loopw [5, 6] (fun v i wr => ∃ k : Nat, k ≤ a.size ∧ i = .int .i64 k ∧ OwnB wr w.heap.size v ((xorL a.data.toList b.data.toList).take k) ∧ Below w.heap.size w wr)
    (fun _ i _ => a.size - (intOf i).toNat)
  case atStart =>
    exact ⟨0, Nat.zero_le _, rfl, OwnB.lit w _ (Nat.le_refl _), (Below.refl _ _).alloc (Nat.le_refl _) _⟩
  case round =>
    obtain ⟨k, hk, rfl, hown, hbel⟩ := hrel
    by_cases hlt : k < a.size
    · have hkb : k < b.size := by omega
      have hsz := hbel.size
      go_wp2
      go_region_law (refine step_appB rfl (.tmp 14) (.tmp 22) rfl w.heap.size _ _ rfl ((hown.alloc _).drew) wr.heap.size 1 _ _ [a[k] ^^^ b[k]] rfl (heap_alloc_new wr _) (by simp [bc, xor8]) rfl (by decide) (by simp; omega) (by simp; omega) ?_; intro v1 w1 hown1 hb1)
      all_goals
        have hsn := xorL_snoc a b k hlt hkb
        rw [← hsn] at hown1
        clear hsn
        have hb2 := (hbel.alloc hsz _).drew.trans hb1
        clear hb1 hown
        go_wp2
        go_roundw
        case rel => exact ⟨k + 1, by omega, by go_num, hown1, hb2⟩
        case measure => simp [intOf]; omega
    · have hc := conv_ownB hown
      go_wp2
      go_ret
      have : k = a.size := by omega
      subst this
      refine ⟨?_, hbel⟩
      rw [List.take_of_length_le (by rw [HL.out]; exact Nat.le_refl _)]
      rfl

/-- Xor, as the document says it. -/
def xorR (a b : ByteArray) : ByteArray := if a.size = b.size ∧ a.size ≤ 4000 then xorB a b else ⟨#[]⟩

set_option maxHeartbeats 800000 in
theorem implXor_any (a b : ByteArray) (w : World) (ha : a.size ≤ maxLen) (hb : b.size ≤ maxLen) :
    Calls Tryz.prog 71 #[.string a, .string b] w fun e w' => e = .returned (.string (xorR a b)) ∧ Below w.heap.size w w' := by
  unfold maxLen at ha hb
  by_cases h1 : a.size = b.size
  · by_cases h2 : a.size ≤ 4000
    · have hd1 : ((a.size : Int) != (b.size : Int)) = false := by simp [h1]
      have hx : xorR a b = xorB a b := by rw [xorR, if_pos ⟨h1, h2⟩]
      have hlen : (xorL a.data.toList b.data.toList).length = a.size := by simpa using xorL_len a.data.toList b.data.toList (by simpa using (by omega : a.size ≤ b.size))
      have HL := Lib.hid hlen
      have HX := Lib.hid hx
      have hle : a.size ≤ b.size := by omega
      clear h1 hx hlen
      go_enter Tryz.func71, Tryz.ntmps71
      go_wp2_with (at_make; refine wpList_makeB rfl _ _ rfl w.heap.size .i64 .i64 _ rfl rfl (by omega) (by omega) (Nat.le_refl _) ?_; intro v0 w0 hown0 hb0)
      go_loopw [5, 22] (fun v i wr => ∃ k : Nat, k ≤ a.size ∧ i = .int .i64 k ∧ OwnB wr w.heap.size v ((xorL a.data.toList b.data.toList).take k) ∧ Below w.heap.size w wr)
        (fun _ i _ => a.size - (intOf i).toNat)
      case atStart =>
        exact ⟨0, Nat.zero_le _, rfl, hown0, hb0⟩
      case round =>
        obtain ⟨k, hk, rfl, hown, hbel⟩ := hrel
        clear hown0 hb0
        by_cases hlt : k < a.size
        · have hkb : k < b.size := by omega
          have hsz := hbel.size
          go_wp2
          go_region_law (refine step_appB rfl (.tmp 25) (.tmp 33) rfl w.heap.size _ _ rfl ((hown.alloc _).drew) wr.heap.size 1 _ _ [a[k] ^^^ b[k]] rfl (heap_alloc_new wr _) (by simp [bc, xor8]) rfl (by decide) (by simp; omega) (by simp; omega) ?_; intro v1 w1 hown1 hb1)
          all_goals
            have hsn := xorL_snoc a b k hlt hkb
            rw [← hsn] at hown1
            clear hsn
            have hb2 := (hbel.alloc hsz _).drew.trans hb1
            clear hb1 hown
            go_wp2
            go_roundw
            case rel => exact ⟨k + 1, by omega, by go_num, hown1, hb2⟩
            case measure => simp [intOf]; omega
        · have hc := conv_ownB hown
          go_wp2
          go_ret
          have : k = a.size := by omega
          subst this
          refine ⟨?_, hbel⟩
          rw [List.take_of_length_le (by rw [HL.out]; exact Nat.le_refl _), HX.out]
          rfl
    · have hd1 : ((a.size : Int) != (b.size : Int)) = false := by simp [h1]
      have hx : xorR a b = ⟨#[]⟩ := by rw [xorR, if_neg (by omega)]
      have HX := Lib.hid hx
      clear h1 hx
      go_enter Tryz.func71, Tryz.ntmps71
      go_wp2
      go_ret
      exact ⟨ret_str HX.out.symm, Below.refl _ _⟩
  · have hd1 : ((a.size : Int) != (b.size : Int)) = true := by simp; omega
    have hx : xorR a b = ⟨#[]⟩ := by rw [xorR, if_neg (by omega)]
    have HX := Lib.hid hx
    clear hx
    go_enter Tryz.func71, Tryz.ntmps71
    go_wp2
    go_ret
    exact ⟨ret_str HX.out.symm, Below.refl _ _⟩
end Go.Proofs.YtlipgmaiooljkaaGreatDoor
