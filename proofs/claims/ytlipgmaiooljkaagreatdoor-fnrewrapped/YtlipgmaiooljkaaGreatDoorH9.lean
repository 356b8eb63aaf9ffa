/- Joined: W2a. -/
import Derived.StillTailTactics
import Derived.Test.YtlipgmaiooljkaaGreatDoorH3
import Derived.Test.YtlipgmaiooljkaaGreatDoorH8
/- W2a -/
namespace Go.Proofs.YtlipgmaiooljkaaGreatDoor
open Go.ChangeShapes Go.WideShapes Go.ChangeAt Go.RowKit
set_option linter.unusedVariables false

def add32 (x y : Int) : Int := (x + y) % 4294967296
def xor32 (x y : Int) : Int := bits .xor .u32 x y
def isU (x : Int) : Prop := 0 ≤ x ∧ x ≤ 4294967295
theorem add32_u (x y : Int) : isU (add32 x y) := by unfold isU add32; omega
theorem xor32_u {x y : Int} (hx : isU x) (hy : isU y) : isU (xor32 x y) := by
  obtain ⟨h1, h2⟩ := bounds_u32 (wf_bits .xor .u32 x y)
  exact ⟨h1, h2⟩
theorem rot_u {x : Int} (k : Int) (hx : isU x) : isU (rot x k) := by
  have := rot_bd x k hx.1 hx.2
  exact ⟨this.1, by omega⟩

/-- Four words turned. -/
structure Four where
  a : Int
  b : Int
  c : Int
  d : Int
def Four.u (q : Four) : Prop := isU q.a ∧ isU q.b ∧ isU q.c ∧ isU q.d
def Four.s1 (q : Four) : Four := { q with a := add32 q.a q.b }
def Four.s2 (k : Int) (q : Four) : Four := { q with d := rot (xor32 q.d q.a) k }
def Four.s3 (q : Four) : Four := { q with c := add32 q.c q.d }
def Four.s4 (k : Int) (q : Four) : Four := { q with b := rot (xor32 q.b q.c) k }
def Four.turn (q : Four) : Four := (((((((q.s1).s2 16).s3).s4 12).s1).s2 8).s3).s4 7
theorem Four.turn_u {q : Four} (h : q.u) : q.turn.u := by
  obtain ⟨ha, hb, hc, hd⟩ := h
  have s1 : ∀ {q : Four}, q.u → q.s1.u := fun h => ⟨add32_u _ _, h.2.1, h.2.2.1, h.2.2.2⟩
  have s2 : ∀ (k : Int) {q : Four}, q.u → (q.s2 k).u := fun k _ h => ⟨h.1, h.2.1, h.2.2.1, rot_u k (xor32_u h.2.2.2 h.1)⟩
  have s3 : ∀ {q : Four}, q.u → q.s3.u := fun h => ⟨h.1, h.2.1, add32_u _ _, h.2.2.2⟩
  have s4 : ∀ (k : Int) {q : Four}, q.u → (q.s4 k).u := fun k _ h => ⟨h.1, rot_u k (xor32_u h.2.1 h.2.2.1), h.2.2.1, h.2.2.2⟩
  exact s4 7 (s3 (s2 8 (s1 (s4 12 (s3 (s2 16 (s1 ⟨ha, hb, hc, hd⟩)))))))

set_option maxRecDepth 100000 in
set_option maxHeartbeats 1600000 in
theorem quarterOf_any (q : Four) (w : World) (hq : q.u) :
    Calls Tryz.prog 182 #[.int .u32 q.a, .int .u32 q.b, .int .u32 q.c, .int .u32 q.d] w fun e w' => e = .returned (.tuple #[.int .u32 q.turn.a, .int .u32 q.turn.b, .int .u32 q.turn.c, .int .u32 q.turn.d]) ∧ w = w' := by
  obtain ⟨a, b, c, d⟩ := q
  obtain ⟨⟨ha0, ha1⟩, ⟨hb0, hb1⟩, ⟨hc0, hc1⟩, ⟨hd0, hd1⟩⟩ := hq
  dsimp only at ha0 ha1 hb0 hb1 hc0 hc1 hd0 hd1
  go_enter Tryz.func182, Tryz.ntmps182
  go_wp2_with (go_at_call 186; refine (rot32_any _ _ (by omega) (by omega) _).mono ?_; rintro e w' ⟨rfl, rfl⟩)
  refine bodyPost_ret (v := .tuple #[.int .u32 (Four.turn ⟨a, b, c, d⟩).a, .int .u32 (Four.turn ⟨a, b, c, d⟩).b, .int .u32 (Four.turn ⟨a, b, c, d⟩).c, .int .u32 (Four.turn ⟨a, b, c, d⟩).d]) ?_ rfl ⟨rfl, rfl⟩
  simp [results, Tryz.results182, go_sem, Four.turn, Four.s1, Four.s2, Four.s3, Four.s4, add32, xor32]

theorem l2Rot_any (x k : Int) (hk0 : 0 ≤ k) (hk : k ≤ 31) (w : World) :
    Calls Tryz.prog 150 #[.int .u32 x, .int .u64 k] w fun e w' => e = .returned (.int .u32 (rot x k)) ∧ w = w' := by
  go_enter Tryz.func150, Tryz.ntmps150
  go_wp2
  go_ret
  exact ⟨rfl, rfl⟩

/-- A row whose cells at four places are known. -/
def upd (zs : List Int) (i j k l : Nat) (q : Four) : List Int := (((zs.set i q.a).set j q.b).set k q.c).set l q.d

structure Apart (n i j k l : Nat) : Prop where
  hi : i < n
  hj : j < n
  hk : k < n
  hl : l < n
  ij : i ≠ j
  ik : i ≠ k
  il : i ≠ l
  jk : j ≠ k
  jl : j ≠ l
  kl : k ≠ l

theorem upd_len (zs : List Int) (i j k l : Nat) (q : Four) : (upd zs i j k l q).length = zs.length := by simp [upd]
theorem upd_i {zs : List Int} {i j k l : Nat} (h : Apart zs.length i j k l) (q : Four) : (upd zs i j k l q)[i]? = some q.a := by
  have := h.hi
  simp [upd, h.ij.symm, h.ik.symm, h.il.symm, this]
theorem upd_j {zs : List Int} {i j k l : Nat} (h : Apart zs.length i j k l) (q : Four) : (upd zs i j k l q)[j]? = some q.b := by
  have := h.hj
  simp [upd, h.jk.symm, h.jl.symm, this]
theorem upd_k {zs : List Int} {i j k l : Nat} (h : Apart zs.length i j k l) (q : Four) : (upd zs i j k l q)[k]? = some q.c := by
  have := h.hk
  simp [upd, h.kl.symm, this]
theorem upd_l {zs : List Int} {i j k l : Nat} (h : Apart zs.length i j k l) (q : Four) : (upd zs i j k l q)[l]? = some q.d := by
  have := h.hl
  simp [upd, this]
theorem upd_set_i {zs : List Int} {i j k l : Nat} (h : Apart zs.length i j k l) (q : Four) (x : Int) : (upd zs i j k l q).set i x = upd zs i j k l { q with a := x } := by
  unfold upd
  rw [List.set_comm _ _ h.il.symm, List.set_comm _ _ h.ik.symm, List.set_comm _ _ h.ij.symm, List.set_set]
theorem upd_set_j {zs : List Int} {i j k l : Nat} (h : Apart zs.length i j k l) (q : Four) (x : Int) : (upd zs i j k l q).set j x = upd zs i j k l { q with b := x } := by
  unfold upd
  rw [List.set_comm _ _ h.jl.symm, List.set_comm _ _ h.jk.symm, List.set_set]
theorem upd_set_k {zs : List Int} {i j k l : Nat} (h : Apart zs.length i j k l) (q : Four) (x : Int) : (upd zs i j k l q).set k x = upd zs i j k l { q with c := x } := by
  unfold upd
  rw [List.set_comm _ _ h.kl.symm, List.set_set]
theorem upd_set_l {zs : List Int} {i j k l : Nat} (h : Apart zs.length i j k l) (q : Four) (x : Int) : (upd zs i j k l q).set l x = upd zs i j k l { q with d := x } := by
  unfold upd
  rw [List.set_set]

/-- What the walk holds of the row between two statements. -/
structure Q4 (w0 w : World) (base g n cap : Nat) (zs : List Int) (i j k l : Nat) (q : Four) : Prop where
  own : OwnK 104 .u32 w base (.slice (some ⟨g, 0, none⟩) n cap) (upd zs i j k l q)
  ca : w.cell? ⟨g, i, none⟩ = some (.int .u32 q.a)
  cb : w.cell? ⟨g, j, none⟩ = some (.int .u32 q.b)
  cc : w.cell? ⟨g, k, none⟩ = some (.int .u32 q.c)
  cd : w.cell? ⟨g, l, none⟩ = some (.int .u32 q.d)
  fr : ∀ x, w.frozen? ⟨g, x, none⟩ = false
  kept : w0.grownBy w (some g)
  u : q.u

theorem Q4.mk' {w0 w : World} {base g n cap : Nat} {zs : List Int} {i j k l : Nat} {q : Four} (hn : n = zs.length) (hA : Apart n i j k l) (h : OwnK 104 .u32 w base (.slice (some ⟨g, 0, none⟩) n cap) (upd zs i j k l q)) (hg : w0.grownBy w (some g)) (hu : q.u) : Q4 w0 w base g n cap zs i j k l q := by
  subst hn
  have hl := upd_len zs i j k l q
  have hcell : ∀ x, x < zs.length → w.cell? ⟨g, x, none⟩ = ((upd zs i j k l q).map (Value.int .u32))[x]? := by
    intro x hx
    have h' := h
    unfold OwnK at h'
    rw [hl] at h'
    exact World.ownsRow.cellAt h' x (by omega)
  refine ⟨h, ?_, ?_, ?_, ?_, fun x => h.free hl.symm x, hg, hu⟩
  · rw [hcell i hA.hi, List.getElem?_map, upd_i hA]; rfl
  · rw [hcell j hA.hj, List.getElem?_map, upd_j hA]; rfl
  · rw [hcell k hA.hk, List.getElem?_map, upd_k hA]; rfl
  · rw [hcell l hA.hl, List.getElem?_map, upd_l hA]; rfl

theorem grown_trans2 {w w1 w2 : World} {row : Option Nat} (h : w.grownBy w1 row) (k : w1.grownBy w2 row) : w.grownBy w2 row :=
  ⟨k.os.trans h.os, k.tape.trans h.tape, k.output.trans h.output, Nat.le_trans h.size k.size, fun i hi hn => (k.block i (Nat.lt_of_lt_of_le hi h.size) hn).trans (h.block i hi hn)⟩
theorem grown_setCell2 (w : World) (b o : Nat) (u : Value) : w.grownBy (w.setCell ⟨b, o, none⟩ u) (some b) :=
  ⟨rfl, rfl, rfl, by simp [World.setCell], fun k _ hk => Below.heap_setCell _ _ _ _ (fun e => hk (by rw [e]))⟩

theorem Q4.drew {w0 w : World} {base g n cap : Nat} {zs : List Int} {i j k l : Nat} {q : Four} (h : Q4 w0 w base g n cap zs i j k l q) : Q4 w0 w.drew base g n cap zs i j k l q :=
  ⟨h.own, h.ca, h.cb, h.cc, h.cd, h.fr, ⟨h.kept.os, h.kept.tape, h.kept.output, h.kept.size, h.kept.block⟩, h.u⟩
theorem Q4.set {w0 w : World} {base g n cap : Nat} {zs : List Int} {i j k l : Nat} {q q' : Four} (h : Q4 w0 w base g n cap zs i j k l q) (hn : n = zs.length) (hA : Apart n i j k l) (x : Nat) (v : Int) (he : (upd zs i j k l q).set x v = upd zs i j k l q') (hu : q'.u) : Q4 w0 (w.setCell ⟨g, x, none⟩ (.int .u32 v)) base g n cap zs i j k l q' := by
  have := h.own.set (by rw [upd_len]; exact hn) x v
  rw [he] at this
  exact Q4.mk' hn hA this (grown_trans2 h.kept (grown_setCell2 w g x _)) hu

theorem s1_u {q : Four} (h : q.u) : q.s1.u := ⟨add32_u _ _, h.2.1, h.2.2.1, h.2.2.2⟩
theorem s2_u (k : Int) {q : Four} (h : q.u) : (q.s2 k).u := ⟨h.1, h.2.1, h.2.2.1, rot_u k (xor32_u h.2.2.2 h.1)⟩
theorem s3_u {q : Four} (h : q.u) : q.s3.u := ⟨h.1, h.2.1, add32_u _ _, h.2.2.2⟩
theorem s4_u (k : Int) {q : Four} (h : q.u) : (q.s4 k).u := ⟨h.1, rot_u k (xor32_u h.2.1 h.2.2.1), h.2.2.1, h.2.2.2⟩
theorem wrap_add32 (x y : Int) : IntKind.u32.wrap (x + y) = add32 x y := by rw [IntKind.wrap_u32']; rfl
theorem still_rot (x k : Int) (hk0 : 0 ≤ k) (hk : k ≤ 31) (w : World) : Calls Tryz.prog 150 #[.int .u32 x, .int .u64 k] w fun e w' => e = .returned (.int .u32 (rot x k)) ∧ w' = w := (l2Rot_any x k hk0 hk w).mono fun _ _ h => ⟨h.1, h.2.symm⟩

set_option maxRecDepth 100000 in
set_option maxHeartbeats 6400000 in
theorem l2Quarter_any (base g n cap : Nat) (zs : List Int) (i j k l : Nat) (q : Four) (w : World) (hn : n = zs.length) (hn2 : n ≤ 100) (hA : Apart n i j k l) (h : OwnK 104 .u32 w base (.slice (some ⟨g, 0, none⟩) n cap) (upd zs i j k l q)) (hu : q.u) :
    Calls Tryz.prog 114 #[.slice (some ⟨g, 0, none⟩) n cap, .int .i64 i, .int .i64 j, .int .i64 k, .int .i64 l] w fun e w' => e = .returned (.tuple #[]) ∧ OwnK 104 .u32 w' base (.slice (some ⟨g, 0, none⟩) n cap) (upd zs i j k l q.turn) ∧ w.grownBy w' (some g) := by
  have H0 := Lib.hid (Q4.mk' hn hA h (World.grownBy.refl w (some g)) hu)
  have HA := Lib.hid hA
  have HN := Lib.hid hn
  have hA2 := HN.out ▸ hA
  have HA2 := Lib.hid hA2
  have hi := hA.hi
  have hj := hA.hj
  have hk := hA.hk
  have hl := hA.hl
  have i0 : (i : Int) < (n : Int) := by omega
  have j0 : (j : Int) < (n : Int) := by omega
  have k0 : (k : Int) < (n : Int) := by omega
  have l0 : (l : Int) < (n : Int) := by omega
  clear h hA hA2 hn hu
  go_enter Tryz.func114, Tryz.ntmps114
  have f1 := H0.out.drew.fr i
  have c1 := H0.out.drew.ca
  have c2 := H0.out.drew.cb
  have hw := wrap_add32 q.a q.b
  go_wp2
  go_still_tail 12, (by kernel_rfl)
  change wpList _ _ _ _ _ w.drew
  go_wp2
  clear hw f1 c1 c2
  have H1' := (H0.out.set HN.out HA.out i (add32 q.a q.b) (upd_set_i HA2.out q _) (s1_u H0.out.u)).drew
  obtain ⟨w1, hw1⟩ : ∃ wn, wn = (w.setCell ⟨g, i, none⟩ (.int .u32 (add32 q.a q.b))).drew := ⟨_, rfl⟩
  obtain ⟨q1, hq1⟩ : ∃ qn, qn = q.s1 := ⟨_, rfl⟩
  change Q4 _ _ _ _ _ _ _ _ _ _ _ (q.s1) at H1'
  rw [← hw1, ← hq1] at H1'
  rw [← hw1]
  have H1 := Lib.hid H1'
  have HQ1 := Lib.hid hq1
  clear H1' hw1 hq1 H0
  have f1 := H1.out.drew.fr l
  have c1 := H1.out.drew.cd
  have c2 := H1.out.drew.ca
  have hw : bits BinOp.xor IntKind.u32 q1.d q1.a = xor32 q1.d q1.a := rfl
  go_still_tail 13, (by kernel_rfl)
  still_call (still_rot (xor32 q1.d q1.a) 16 (by decide) (by decide) _)
  repeat still_step
  refine wpStill_nil ?_
  change wpList _ _ _ _ _ w1.drew
  go_wp2
  clear hw f1 c1 c2
  have H2' := (H1.out.set HN.out HA.out l (rot (xor32 q1.d q1.a) 16) (upd_set_l HA2.out q1 _) (s2_u 16 H1.out.u)).drew
  obtain ⟨w2, hw2⟩ : ∃ wn, wn = (w1.setCell ⟨g, l, none⟩ (.int .u32 (rot (xor32 q1.d q1.a) 16))).drew := ⟨_, rfl⟩
  obtain ⟨q2, hq2⟩ : ∃ qn, qn = q1.s2 16 := ⟨_, rfl⟩
  change Q4 _ _ _ _ _ _ _ _ _ _ _ (q1.s2 16) at H2'
  rw [← hw2, ← hq2] at H2'
  rw [← hw2]
  have H2 := Lib.hid H2'
  have HQ2 := Lib.hid hq2
  clear H2' hw2 hq2 H1
  have f1 := H2.out.drew.fr k
  have c1 := H2.out.drew.cc
  have c2 := H2.out.drew.cd
  have hw := wrap_add32 q2.c q2.d
  go_still_tail 12, (by kernel_rfl)
  change wpList _ _ _ _ _ w2.drew
  go_wp2
  clear hw f1 c1 c2
  have H3' := (H2.out.set HN.out HA.out k (add32 q2.c q2.d) (upd_set_k HA2.out q2 _) (s3_u H2.out.u)).drew
  obtain ⟨w3, hw3⟩ : ∃ wn, wn = (w2.setCell ⟨g, k, none⟩ (.int .u32 (add32 q2.c q2.d))).drew := ⟨_, rfl⟩
  obtain ⟨q3, hq3⟩ : ∃ qn, qn = q2.s3 := ⟨_, rfl⟩
  change Q4 _ _ _ _ _ _ _ _ _ _ _ (q2.s3) at H3'
  rw [← hw3, ← hq3] at H3'
  rw [← hw3]
  have H3 := Lib.hid H3'
  have HQ3 := Lib.hid hq3
  clear H3' hw3 hq3 H2
  have f1 := H3.out.drew.fr j
  have c1 := H3.out.drew.cb
  have c2 := H3.out.drew.cc
  have hw : bits BinOp.xor IntKind.u32 q3.b q3.c = xor32 q3.b q3.c := rfl
  go_still_tail 13, (by kernel_rfl)
  still_call (still_rot (xor32 q3.b q3.c) 12 (by decide) (by decide) _)
  repeat still_step
  refine wpStill_nil ?_
  change wpList _ _ _ _ _ w3.drew
  go_wp2
  clear hw f1 c1 c2
  have H4' := (H3.out.set HN.out HA.out j (rot (xor32 q3.b q3.c) 12) (upd_set_j HA2.out q3 _) (s4_u 12 H3.out.u)).drew
  obtain ⟨w4, hw4⟩ : ∃ wn, wn = (w3.setCell ⟨g, j, none⟩ (.int .u32 (rot (xor32 q3.b q3.c) 12))).drew := ⟨_, rfl⟩
  obtain ⟨q4, hq4⟩ : ∃ qn, qn = q3.s4 12 := ⟨_, rfl⟩
  change Q4 _ _ _ _ _ _ _ _ _ _ _ (q3.s4 12) at H4'
  rw [← hw4, ← hq4] at H4'
  rw [← hw4]
  have H4 := Lib.hid H4'
  have HQ4 := Lib.hid hq4
  clear H4' hw4 hq4 H3
  have f1 := H4.out.drew.fr i
  have c1 := H4.out.drew.ca
  have c2 := H4.out.drew.cb
  have hw := wrap_add32 q4.a q4.b
  go_still_tail 12, (by kernel_rfl)
  change wpList _ _ _ _ _ w4.drew
  go_wp2
  clear hw f1 c1 c2
  have H5' := (H4.out.set HN.out HA.out i (add32 q4.a q4.b) (upd_set_i HA2.out q4 _) (s1_u H4.out.u)).drew
  obtain ⟨w5, hw5⟩ : ∃ wn, wn = (w4.setCell ⟨g, i, none⟩ (.int .u32 (add32 q4.a q4.b))).drew := ⟨_, rfl⟩
  obtain ⟨q5, hq5⟩ : ∃ qn, qn = q4.s1 := ⟨_, rfl⟩
  change Q4 _ _ _ _ _ _ _ _ _ _ _ (q4.s1) at H5'
  rw [← hw5, ← hq5] at H5'
  rw [← hw5]
  have H5 := Lib.hid H5'
  have HQ5 := Lib.hid hq5
  clear H5' hw5 hq5 H4
  have f1 := H5.out.drew.fr l
  have c1 := H5.out.drew.cd
  have c2 := H5.out.drew.ca
  have hw : bits BinOp.xor IntKind.u32 q5.d q5.a = xor32 q5.d q5.a := rfl
  go_still_tail 13, (by kernel_rfl)
  still_call (still_rot (xor32 q5.d q5.a) 8 (by decide) (by decide) _)
  repeat still_step
  refine wpStill_nil ?_
  change wpList _ _ _ _ _ w5.drew
  go_wp2
  clear hw f1 c1 c2
  have H6' := (H5.out.set HN.out HA.out l (rot (xor32 q5.d q5.a) 8) (upd_set_l HA2.out q5 _) (s2_u 8 H5.out.u)).drew
  obtain ⟨w6, hw6⟩ : ∃ wn, wn = (w5.setCell ⟨g, l, none⟩ (.int .u32 (rot (xor32 q5.d q5.a) 8))).drew := ⟨_, rfl⟩
  obtain ⟨q6, hq6⟩ : ∃ qn, qn = q5.s2 8 := ⟨_, rfl⟩
  change Q4 _ _ _ _ _ _ _ _ _ _ _ (q5.s2 8) at H6'
  rw [← hw6, ← hq6] at H6'
  rw [← hw6]
  have H6 := Lib.hid H6'
  have HQ6 := Lib.hid hq6
  clear H6' hw6 hq6 H5
  have f1 := H6.out.drew.fr k
  have c1 := H6.out.drew.cc
  have c2 := H6.out.drew.cd
  have hw := wrap_add32 q6.c q6.d
  go_still_tail 12, (by kernel_rfl)
  change wpList _ _ _ _ _ w6.drew
  go_wp2
  clear hw f1 c1 c2
  have H7' := (H6.out.set HN.out HA.out k (add32 q6.c q6.d) (upd_set_k HA2.out q6 _) (s3_u H6.out.u)).drew
  obtain ⟨w7, hw7⟩ : ∃ wn, wn = (w6.setCell ⟨g, k, none⟩ (.int .u32 (add32 q6.c q6.d))).drew := ⟨_, rfl⟩
  obtain ⟨q7, hq7⟩ : ∃ qn, qn = q6.s3 := ⟨_, rfl⟩
  change Q4 _ _ _ _ _ _ _ _ _ _ _ (q6.s3) at H7'
  rw [← hw7, ← hq7] at H7'
  rw [← hw7]
  have H7 := Lib.hid H7'
  have HQ7 := Lib.hid hq7
  clear H7' hw7 hq7 H6
  have f1 := H7.out.drew.fr j
  have c1 := H7.out.drew.cb
  have c2 := H7.out.drew.cc
  have hw : bits BinOp.xor IntKind.u32 q7.b q7.c = xor32 q7.b q7.c := rfl
  go_still_tail 13, (by kernel_rfl)
  still_call (still_rot (xor32 q7.b q7.c) 7 (by decide) (by decide) _)
  repeat still_step
  refine wpStill_nil ?_
  change wpList _ _ _ _ _ w7.drew
  go_wp2
  clear hw f1 c1 c2
  have H8' := (H7.out.set HN.out HA.out j (rot (xor32 q7.b q7.c) 7) (upd_set_j HA2.out q7 _) (s4_u 7 H7.out.u)).drew
  obtain ⟨w8, hw8⟩ : ∃ wn, wn = (w7.setCell ⟨g, j, none⟩ (.int .u32 (rot (xor32 q7.b q7.c) 7))).drew := ⟨_, rfl⟩
  obtain ⟨q8, hq8⟩ : ∃ qn, qn = q7.s4 7 := ⟨_, rfl⟩
  change Q4 _ _ _ _ _ _ _ _ _ _ _ (q7.s4 7) at H8'
  rw [← hw8, ← hq8] at H8'
  rw [← hw8]
  have H8 := Lib.hid H8'
  have HQ8 := Lib.hid hq8
  clear H8' hw8 hq8 H7
  go_end0
  have ht : q8 = q.turn := by
    rw [HQ8.out, HQ7.out, HQ6.out, HQ5.out, HQ4.out, HQ3.out, HQ2.out, HQ1.out]; rfl
  rw [← ht]
  exact ⟨rfl, H8.out.own, H8.out.kept⟩
end Go.Proofs.YtlipgmaiooljkaaGreatDoor
