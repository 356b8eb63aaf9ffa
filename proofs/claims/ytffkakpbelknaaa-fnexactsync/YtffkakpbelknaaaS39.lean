/- Joined: W14s. -/
import Derived.Test.YtffkakpbelknaaaS38
/- W14s -/
namespace Go.Proofs.Ytffkakpbelknaaa
open Go.ChangeShapes Go.WideShapes Go.ChangeAt Go.RowKit
set_option linter.unusedVariables false
set_option linter.unusedSimpArgs false

def OaAt (w : World) (B : Nat) (v : Value) (os : List DOp) : Prop := RecAt 4 doC w B v os ∧ ∀ x ∈ os, DoSz x
theorem OaAt.raw {w : World} {B : Nat} {v : Value} {os : List DOp} (h : OaAt w B v os) : ∃ a cap, v = .slice a os.length cap ∧ os.length ≤ cap ∧ cap ≤ maxLen ∧
    ∀ j, j < os.length → ∃ b off, a = some ⟨b, off, none⟩ ∧ b < B ∧ ∀ i (h : i < os.length), w.cell? ⟨b, off + i * 4, none⟩ = some (.int .i64 os[i].k) ∧ w.cell? ⟨b, off + i * 4 + 1, none⟩ = some (.string os[i].nm) ∧ w.cell? ⟨b, off + i * 4 + 2, none⟩ = some (.string os[i].tn) ∧ w.cell? ⟨b, off + i * 4 + 3, none⟩ = some (.string os[i].da) ∧ DoSz os[i] := by
  obtain ⟨⟨a, cap, hv, h1, h2, hc⟩, hs⟩ := h
  refine ⟨a, cap, hv, h1, h2, fun j hj => ?_⟩
  obtain ⟨b, off, ha, hB, hr⟩ := hc (by omega)
  exact ⟨b, off, ha, hB, fun i hi => ⟨hr i hi 0 _ rfl, hr i hi 1 _ rfl, hr i hi 2 _ rfl, hr i hi 3 _ rfl, hs _ (List.getElem_mem hi)⟩⟩
theorem OaAt.below {w w' : World} {B : Nat} {v : Value} {os : List DOp} (h : OaAt w B v os) (hb : Below B w w') : OaAt w' B v os := ⟨h.1.below hb, h.2⟩
theorem OaAt.mono {w : World} {B B' : Nat} {v : Value} {os : List DOp} (h : OaAt w B v os) (hb : B ≤ B') : OaAt w B' v os := ⟨h.1.mono hb, h.2⟩
theorem OaAt.od {w : World} {B : Nat} {v : Value} {os : List DOp} (h : OaAt w B v os) (hs : ∀ x ∈ os, x.da.size ≤ 100000000000) : OdAt w B v os := ⟨h.1, fun x hx => ⟨h.2 x hx, hs x hx⟩⟩
abbrev fiZ : Fi := ⟨ByteArray.empty, ByteArray.empty⟩
abbrev doZ : DOp := ⟨0, ByteArray.empty, ByteArray.empty, ByteArray.empty⟩
theorem Try.infoFileZ : (Try.prog.info? 167).map (fun i => (i.zero, i.size, i.bytes)) = some (some (.agg #[.string ByteArray.empty, .string ByteArray.empty]), 2, 32) := by kernel_rfl
theorem Try.infoDOp : (Try.prog.info? 68).map (fun i => (i.zero, i.size, i.bytes)) = some (some (.agg #[.int .i64 0, .string ByteArray.empty, .string ByteArray.empty, .string ByteArray.empty]), 4, 56) := by kernel_rfl

theorem Try.infFile1 : (Try.prog.info? 167).map (·.size) = some 2 := by kernel_rfl
theorem results_File {fn : Func} {p : Tmp} (h : fn.results = #[.cell p 167]) (tmps : Array Value) (w : World) (g : Nat) (cs : Array Value) (hz : cs.size = 2)
    (hp : tmps.getD p undef = .pointer (some ⟨g, 0, none⟩)) (hA : Box w g cs 167) : (results fn tmps).run Try.prog w = .ok (.agg cs) w :=
  results_cell_row h tmps w g _ _ _ _ hp hA Try.underlying167 rfl (by rw [hz]; exact Try.infFile1)

set_option maxRecDepth 100000 in
set_option maxHeartbeats 1600000 in
theorem toFile_any (s : ByteArray) (t : ByteArray) (w : World) : Calls Try.prog 127 #[.agg #[.string s, .string t]] w fun e w' => e = .returned (.agg #[.string s, .string t]) ∧ Below w.heap.size w w' := by
  have HB := Lib.hid ((((Below.refl w.heap.size w).alloc (Nat.le_refl _) (.cells #[.string s, .string t] 165)).alloc (by simp) (.cells #[.string s, .string t] 167)).alloc (by simp; omega) (.cells #[.string s, .string t] 167))
  go_enter Try.func127, Try.ntmps127
  go_wp2
  have hA := (Box.new (w.alloc (.cells #[.string s, .string t] 165)) #[.string s, .string t] 167).alloc (.cells #[.string s, .string t] 167)
  rw [World.size_alloc] at hA
  exact bodyPost_ret (results_File rfl _ _ _ _ rfl rfl hA) rfl ⟨rfl, HB.out⟩

set_option maxRecDepth 100000 in
set_option maxHeartbeats 1600000 in
theorem eqFile_same (s : ByteArray) (t : ByteArray) (w : World) : Calls Try.prog 132 #[.agg #[.string s, .string t], .agg #[.string s, .string t]] w fun e w' => e = .returned (.bool true) ∧ Below w.heap.size w w' := by
  have HB := Lib.hid (((Below.refl w.heap.size w).alloc (Nat.le_refl _) (.cells #[.string s, .string t] 167)).alloc (by simp) (.cells #[.string s, .string t] 167))
  go_enter Try.func132, Try.ntmps132
  go_wp2
  go_ret
  exact ⟨rfl, HB.out⟩

set_option maxRecDepth 100000 in
set_option maxHeartbeats 1600000 in
theorem szFile_any (s : ByteArray) (t : ByteArray) (k : Int) (w : World) (hs : s.size ≤ maxLen) (ht : t.size ≤ maxLen) (h0 : 0 ≤ k) (h1 : k ≤ 1048576) :
    Calls Try.prog 124 #[.agg #[.string s, .string t], .int .i64 k] w fun e w' => ∃ r : Int, e = .returned (.int .i64 r) ∧ -1 ≤ r ∧ r ≤ k ∧ (0 ≤ r → r + t.size ≤ k) ∧ Below w.heap.size w w' := by
  unfold maxLen at hs ht
  have hB := (Below.refl w.heap.size w).alloc (Nat.le_refl _) (.cells #[.string s, .string t] 165)
  by_cases c0 : k - s.size < 0
  · go_enter Try.func124, Try.ntmps124
    go_wp2
    go_ret
    exact ⟨-1, rfl, by omega, by omega, by omega, hB⟩
  · by_cases c1 : k - s.size - t.size < 0
    · go_enter Try.func124, Try.ntmps124
      go_wp2
      go_ret
      exact ⟨-1, rfl, by omega, by omega, by omega, hB⟩
    · go_enter Try.func124, Try.ntmps124
      go_wp2
      go_ret
      exact ⟨_, rfl, by omega, by omega, by omega, hB⟩

set_option maxRecDepth 100000 in
set_option maxHeartbeats 1600000 in
theorem szFileS_any (v : Value) (es : List Fi) (n : Int) (w : World) (h : FiAt w w.heap.size v es) (h0 : 0 ≤ n) (h1 : n ≤ 1048576) :
    Calls Try.prog 69 #[v, .int .i64 n] w fun e w' => ∃ r : Int, e = .returned (.int .i64 r) ∧ -1 ≤ r ∧ (0 ≤ r → r + es.length + fiSum es ≤ n) ∧ Below w.heap.size w w' := by
  have HI := Lib.hid h
  obtain ⟨a, cap, rfl, hl, hm, _⟩ := h.raw
  unfold maxLen at hm
  clear h
  by_cases h2 : n - es.length < 0
  · go_enter Try.func69, Try.ntmps69
    go_wp2
    go_ret
    exact ⟨-1, rfl, by omega, by omega, Below.refl _ _⟩
  · go_enter Try.func69, Try.ntmps69
    go_wp2
    go_loopw [1, 5] (fun r i wr => ∃ (k : Nat) (x : Int), k ≤ es.length ∧ i = .int .i64 (k : Int) ∧ r = .int .i64 x ∧ Below w.heap.size w wr ∧ 0 ≤ x ∧ x + es.length + fiSum (es.take k) ≤ n) (fun _ i _ => es.length - (intOf i).toNat)
    case atStart => exact ⟨0, n - es.length, Nat.zero_le _, rfl, rfl, Below.refl _ _, by omega, by simp [fiSum]⟩
    case round =>
      obtain ⟨k, x, hk, rfl, rfl, hB, hx0, hx1⟩ := hrel
      by_cases hlt : k < es.length
      · obtain ⟨a', cap', hv, _, _, hc⟩ := (HI.out.below hB).raw
        cases hv
        obtain ⟨b, off, rfl, hb, hr⟩ := hc k hlt
        obtain ⟨c0, c1, s0, s1⟩ := hr k hlt
        have HTk := Lib.hid (fiSum_take es k hlt)
        have HC := Lib.hid (fun w => szFile_any es[k].nm es[k].da x w s0 s1 hx0 (by omega))
        obtain ⟨S, hS⟩ : ∃ x, x = es[k].nm := ⟨_, rfl⟩
        obtain ⟨T, hT⟩ : ∃ x, x = es[k].da := ⟨_, rfl⟩
        rw [← hS] at c0 HC
        rw [← hT] at c1 HC
        have HD0 := Lib.hid hT
        clear hr hc hS hT
        go_wp2_with fail
        refine (HC.out _).mono ?_
        rintro e w1 ⟨y, rfl, hy0, hy1, hy2, hb1⟩
        have hB1 := hB.trans (hb1.mono hB.size)
        clear hb1 hB HC c0 c1
        by_cases hy : y < 0
        · go_wp2
          go_ret
          exact ⟨-1, rfl, by omega, by omega, hB1⟩
        · have hy3 := hy2 (by omega)
          go_wp2
          go_roundw
          case rel => exact ⟨k + 1, y, by omega, by go_num, rfl, hB1, by omega, by rw [HTk.out, ← HD0.out]; omega⟩
          case measure => simp [intOf]; omega
      · have HTe : fiSum (es.take k) = fiSum es := by rw [List.take_of_length_le (by omega)]
        go_wp2
        go_ret
        exact ⟨x, rfl, by omega, by intro _; rw [← HTe]; omega, hB⟩

set_option maxRecDepth 100000 in
set_option maxHeartbeats 1600000 in
theorem toFileS_any (v : Value) (es : List Fi) (w : World) (h : FiAt w w.heap.size v es) (hn : es.length ≤ 1048576) :
    Calls Try.prog 73 #[v] w (OutR 167 2 fiC es w) := by
  have HI := Lib.hid h
  obtain ⟨a, cap, rfl, hl, hm, _⟩ := h.raw
  unfold maxLen at hm
  clear h
  go_enter Try.func73, Try.ntmps73
  go_wp2_with (at_make; refine wpList_fullR (z := fiZ) fiC_len (by decide) Try.underlying61 Try.infoFileZ rfl (by decide) rfl _ _ rfl w.heap.size .i64 .i64 es.length rfl rfl (by omega) (Nat.le_refl _) ?_; intro w0 hown0 hb0)
  go_loopw [4] (fun i wr => ∃ k : Nat, k ≤ es.length ∧ i = .int .i64 k ∧ OwnR 167 2 fiC wr w.heap.size (.slice (some ⟨w.heap.size, 0, none⟩) es.length es.length) (es.take k ++ List.replicate (es.length - k) fiZ) ∧ Below w.heap.size w wr)
    (fun i _ => es.length - (intOf i).toNat)
  case atStart => exact ⟨0, Nat.zero_le _, rfl, by simpa using hown0, hb0⟩
  case round =>
    obtain ⟨k, hk, rfl, hown, hbel⟩ := hrel
    clear hown0 hb0
    by_cases hlt : k < es.length
    · obtain ⟨a', cap', hv, _, _, hc⟩ := (HI.out.below hbel).raw
      cases hv
      obtain ⟨b, off, rfl, hb, hr⟩ := hc k hlt
      obtain ⟨c0, c1, s0, s1⟩ := hr k hlt
      have HC := Lib.hid (fun w => toFile_any es[k].nm es[k].da w)
      have HP : Hid (∀ w', OwnR 167 2 fiC w' w.heap.size (.slice (some ⟨w.heap.size, 0, none⟩) es.length es.length) (es.take k ++ List.replicate (es.length - k) fiZ) → OwnR 167 2 fiC (putRow w.heap.size (k * 2) (fiC es[k]) w') w.heap.size (.slice (some ⟨w.heap.size, 0, none⟩) es.length es.length) (es.take (k + 1) ++ List.replicate (es.length - (k + 1)) fiZ)) := Lib.hid (fun w' h => by
        rw [← set_copyR es fiZ k hlt]
        exact h.put fiC_len (by simp; omega) k es[k] (by simp; omega))
      have HQ : Hid (∀ w', Below w.heap.size w w' → Below w.heap.size w (putRow w.heap.size (k * 2) (fiC es[k]) w')) := Lib.hid (fun w' h => putRow_below (Nat.le_refl _) _ _ _ _ h)
      unfold fiC at HP HQ
      simp only [putRow] at HP HQ
      obtain ⟨S, hS⟩ : ∃ x, x = es[k].nm := ⟨_, rfl⟩
      obtain ⟨T, hT⟩ : ∃ x, x = es[k].da := ⟨_, rfl⟩
      rw [← hS] at c0 HC HP HQ
      rw [← hT] at c1 HC HP HQ
      have HOw := Lib.hid hown
      clear hr hc hown hS hT
      go_wp2_with fail
      refine (HC.out _).mono ?_
      rintro e w1 ⟨rfl, hb1⟩
      have hown1 := HOw.out.keep hb1 (Nat.le_refl _)
      have hbel1 := hbel.trans (hb1.mono hbel.size)
      have hfr : ∀ j, w1.frozen? ⟨w.heap.size, j, none⟩ = false := fun j => hown1.free (by simp; omega) j
      obtain ⟨x0, d0⟩ := hown1.cell fiC_len (by simp; omega) k 0 hlt (by decide)
      obtain ⟨x1, d1⟩ := hown1.cell fiC_len (by simp; omega) k 1 hlt (by decide)
      rw [Nat.add_zero] at d0
      have HO1 := Lib.hid hown1
      clear hown1 HOw hb1 hbel c0 c1
      go_wp2
      refine ⟨⟨k + 1, by omega, by simp, HP.out _ HO1.out, HQ.out _ hbel1⟩, ?_⟩
      simp [intOf]; omega
    · go_wp2
      go_ret
      have : k = es.length := by omega
      subst this
      simp only [List.take_length, Nat.sub_self, List.replicate_zero, List.append_nil] at hown
      exact ⟨_, rfl, hown, hbel⟩

set_option maxRecDepth 100000 in
set_option maxHeartbeats 1600000 in
theorem eqFileS_same (v v' : Value) (es : List Fi) (w : World) (h : FiAt w w.heap.size v es) (h' : FiAt w w.heap.size v' es) :
    Calls Try.prog 78 #[v, v'] w fun e w' => e = .returned (.bool true) ∧ Below w.heap.size w w' := by
  have HI := Lib.hid h
  have HJ := Lib.hid h'
  obtain ⟨a, cap, rfl, hl, hm, _⟩ := h.raw
  obtain ⟨a2, cap2, rfl, hl2, hm2, _⟩ := h'.raw
  unfold maxLen at hm hm2
  clear h h'
  go_enter Try.func78, Try.ntmps78
  go_wp2
  go_loopw [5] (fun i wr => ∃ k : Nat, k ≤ es.length ∧ i = .int .i64 k ∧ Below w.heap.size w wr) (fun i _ => es.length - (intOf i).toNat)
  case atStart => exact ⟨0, Nat.zero_le _, rfl, Below.refl _ _⟩
  case round =>
    obtain ⟨k, hk, rfl, hbel⟩ := hrel
    by_cases hlt : k < es.length
    · obtain ⟨a', cap', hv, _, _, hc⟩ := (HI.out.below hbel).raw
      cases hv
      obtain ⟨b, off, rfl, hb, hr⟩ := hc k hlt
      obtain ⟨c0, c1, s0, s1⟩ := hr k hlt
      obtain ⟨a', cap', hv, _, _, hc'⟩ := (HJ.out.below hbel).raw
      cases hv
      obtain ⟨b2, off2, rfl, hb2, hr2⟩ := hc' k hlt
      obtain ⟨g0, g1, _, _⟩ := hr2 k hlt
      have HC := Lib.hid (fun w => eqFile_same es[k].nm es[k].da w)
      obtain ⟨S, hS⟩ : ∃ x, x = es[k].nm := ⟨_, rfl⟩
      obtain ⟨T, hT⟩ : ∃ x, x = es[k].da := ⟨_, rfl⟩
      rw [← hS] at c0 g0 HC
      rw [← hT] at c1 g1 HC
      clear hr hc hr2 hc' hS hT
      go_wp2
      refine wp_region_T (fun w' => (w'.cell? ⟨b, off + k * 2, none⟩ = some (.string S) ∧ w'.cell? ⟨b, off + k * 2 + 1, none⟩ = some (.string T)) ∧ w'.cell? ⟨b2, off2 + k * 2, none⟩ = some (.string S) ∧ w'.cell? ⟨b2, off2 + k * 2 + 1, none⟩ = some (.string T)) (fun _ => True) 9 (by kernel_rfl) 10 rfl ?_
      refine wpAnyT_takesA (md := .any) 2 (by kernel_rfl) (by intro d v c a w h; cases d <;> exact h) [0, 1, 2, 3, 4, 5, 6, 7] _ _ _ (by decide) (by kernel_rfl) ⟨⟨⟨c0, c1⟩, g0, g1⟩, fun _ => trivial⟩ ?_
      simp only [pick, List.filterMap_cons, List.filterMap_nil, List.getElem?_cons_zero, List.getElem?_cons_succ]
      refine wpIf_step (.slice (some ⟨b, off, none⟩) es.length cap) (by kernel_rfl) (fun w hw => by go_simp) ?_
      refine wpIf_step (.int .i64 (k : Int)) (by kernel_rfl) (fun w hw => by go_simp) ?_
      refine wpIf_step (.pointer (some ⟨b, off + k * 2, none⟩)) (by kernel_rfl) (fun w hw => by go_simp) ?_
      refine wpIf_step (.agg #[.string S, .string T]) (by kernel_rfl) (fun w hw => by obtain ⟨⟨e0, e1⟩, _⟩ := hw; go_simp) ?_
      refine wpIf_step (.slice (some ⟨b2, off2, none⟩) es.length cap2) (by kernel_rfl) (fun w hw => by go_simp) ?_
      refine wpIf_step (.int .i64 (k : Int)) (by kernel_rfl) (fun w hw => by go_simp) ?_
      refine wpIf_step (.pointer (some ⟨b2, off2 + k * 2, none⟩)) (by kernel_rfl) (fun w hw => by go_simp) ?_
      refine wpIf_step (.agg #[.string S, .string T]) (by kernel_rfl) (fun w hw => by obtain ⟨_, e0, e1⟩ := hw; go_simp) ?_
      refine wpIf_nil (fun hS => ?_)
      refine wpAnyT_one 8 1 (by kernel_rfl) rfl (by kernel_rfl) (fun K hK => ?_)
      go_simp
      refine (HC.out _).mono ?_
      rintro e w1 ⟨rfl, hb1⟩
      have hbel1 := hbel.drew.trans (hb1.mono hbel.size)
      have hbl : b < wr.drew.heap.size := by have := hbel.size; show b < wr.heap.size; omega
      have hbl2 : b2 < wr.drew.heap.size := by have := hbel.size; show b2 < wr.heap.size; omega
      have hkc : ∀ b o x, b < wr.drew.heap.size → wr.drew.cell? ⟨b, o, none⟩ = some x → w1.cell? ⟨b, o, none⟩ = some x := fun b o x hb hx => by rw [hb1.cell (p := ⟨b, o, none⟩) hb]; exact hx
      refine hK _ _ ⟨⟨⟨hkc _ _ _ hbl c0, hkc _ _ _ hbl c1⟩, hkc _ _ _ hbl2 g0, hkc _ _ _ hbl2 g1⟩, fun _ => trivial⟩ (fun hS3 => ?_)
      clear hK K hS hb1 hbel c0 c1 g0 g1 hkc hbl hbl2
      refine wpAnyT_one 9 0 (by kernel_rfl) rfl (by kernel_rfl) (fun K hK => ?_)
      go_simp
      refine hK _ _ ⟨hS3.1, fun _ => trivial⟩ (fun hS4 => ?_)
      clear hK K hS3
      refine wpAnyT_over (by kernel_rfl) ?_
      go_wp2
      go_roundw
      case rel => exact ⟨k + 1, by omega, by go_num, hbel1⟩
      case measure => simp [intOf]; omega
    · go_wp2
      go_ret
      exact ⟨rfl, hbel⟩

theorem Try.infDOp1 : (Try.prog.info? 68).map (·.size) = some 4 := by kernel_rfl
theorem results_DOp {fn : Func} {p : Tmp} (h : fn.results = #[.cell p 68]) (tmps : Array Value) (w : World) (g : Nat) (cs : Array Value) (hz : cs.size = 4)
    (hp : tmps.getD p undef = .pointer (some ⟨g, 0, none⟩)) (hA : Box w g cs 68) : (results fn tmps).run Try.prog w = .ok (.agg cs) w :=
  results_cell_row h tmps w g _ _ _ _ hp hA Try.underlying68 rfl (by rw [hz]; exact Try.infDOp1)

set_option maxRecDepth 100000 in
set_option maxHeartbeats 1600000 in
theorem toDOp_any (q : Int) (s : ByteArray) (t : ByteArray) (u : ByteArray) (w : World) : Calls Try.prog 32 #[.agg #[.int .i64 q, .string s, .string t, .string u]] w fun e w' => e = .returned (.agg #[.int .i64 q, .string s, .string t, .string u]) ∧ Below w.heap.size w w' := by
  have HB := Lib.hid ((((Below.refl w.heap.size w).alloc (Nat.le_refl _) (.cells #[.int .i64 q, .string s, .string t, .string u] 58)).alloc (by simp) (.cells #[.int .i64 q, .string s, .string t, .string u] 68)).alloc (by simp; omega) (.cells #[.int .i64 q, .string s, .string t, .string u] 68))
  go_enter Try.func32, Try.ntmps32
  go_wp2
  have hA := (Box.new (w.alloc (.cells #[.int .i64 q, .string s, .string t, .string u] 58)) #[.int .i64 q, .string s, .string t, .string u] 68).alloc (.cells #[.int .i64 q, .string s, .string t, .string u] 68)
  rw [World.size_alloc] at hA
  exact bodyPost_ret (results_DOp rfl _ _ _ _ rfl rfl hA) rfl ⟨rfl, HB.out⟩

set_option maxRecDepth 100000 in
set_option maxHeartbeats 1600000 in
theorem eqDOp_same (q : Int) (s : ByteArray) (t : ByteArray) (u : ByteArray) (w : World) : Calls Try.prog 133 #[.agg #[.int .i64 q, .string s, .string t, .string u], .agg #[.int .i64 q, .string s, .string t, .string u]] w fun e w' => e = .returned (.bool true) ∧ Below w.heap.size w w' := by
  have HB := Lib.hid (((Below.refl w.heap.size w).alloc (Nat.le_refl _) (.cells #[.int .i64 q, .string s, .string t, .string u] 68)).alloc (by simp) (.cells #[.int .i64 q, .string s, .string t, .string u] 68))
  go_enter Try.func133, Try.ntmps133
  go_wp2
  go_ret
  exact ⟨rfl, HB.out⟩

set_option maxRecDepth 100000 in
set_option maxHeartbeats 1600000 in
theorem szDOp_any (q : Int) (s : ByteArray) (t : ByteArray) (u : ByteArray) (k : Int) (w : World) (hs : s.size ≤ maxLen) (ht : t.size ≤ maxLen) (hu : u.size ≤ maxLen) (h0 : 0 ≤ k) (h1 : k ≤ 1048576) :
    Calls Try.prog 29 #[.agg #[.int .i64 q, .string s, .string t, .string u], .int .i64 k] w fun e w' => ∃ r : Int, e = .returned (.int .i64 r) ∧ -1 ≤ r ∧ r ≤ k ∧ (0 ≤ r → r + u.size ≤ k) ∧ Below w.heap.size w w' := by
  unfold maxLen at hs ht hu
  have hB := (Below.refl w.heap.size w).alloc (Nat.le_refl _) (.cells #[.int .i64 q, .string s, .string t, .string u] 58)
  by_cases c0 : k - s.size < 0
  · go_enter Try.func29, Try.ntmps29
    go_wp2
    go_ret
    exact ⟨-1, rfl, by omega, by omega, by omega, hB⟩
  · by_cases c1 : k - s.size - t.size < 0
    · go_enter Try.func29, Try.ntmps29
      go_wp2
      go_ret
      exact ⟨-1, rfl, by omega, by omega, by omega, hB⟩
    · by_cases c2 : k - s.size - t.size - u.size < 0
      · go_enter Try.func29, Try.ntmps29
        go_wp2
        go_ret
        exact ⟨-1, rfl, by omega, by omega, by omega, hB⟩
      · go_enter Try.func29, Try.ntmps29
        go_wp2
        go_ret
        exact ⟨_, rfl, by omega, by omega, by omega, hB⟩

set_option maxRecDepth 100000 in
set_option maxHeartbeats 1600000 in
theorem szDOpS_any (v : Value) (es : List DOp) (n : Int) (w : World) (h : OaAt w w.heap.size v es) (h0 : 0 ≤ n) (h1 : n ≤ 1048576) :
    Calls Try.prog 70 #[v, .int .i64 n] w fun e w' => ∃ r : Int, e = .returned (.int .i64 r) ∧ -1 ≤ r ∧ (0 ≤ r → r ≤ n ∧ (es.length : Int) ≤ n ∧ ∀ j (hj : j < es.length), (es[j].da.size : Int) ≤ n) ∧ Below w.heap.size w w' := by
  have HI := Lib.hid h
  obtain ⟨a, cap, rfl, hl, hm, _⟩ := h.raw
  unfold maxLen at hm
  clear h
  by_cases h2 : n - es.length < 0
  · go_enter Try.func70, Try.ntmps70
    go_wp2
    go_ret
    exact ⟨-1, rfl, by omega, by omega, Below.refl _ _⟩
  · go_enter Try.func70, Try.ntmps70
    go_wp2
    go_loopw [1, 5] (fun r i wr => ∃ (k : Nat) (x : Int), k ≤ es.length ∧ i = .int .i64 (k : Int) ∧ r = .int .i64 x ∧ Below w.heap.size w wr ∧ 0 ≤ x ∧ x ≤ n ∧ Hid (∀ j (hj : j < es.length), j < k → (es[j].da.size : Int) ≤ n)) (fun _ i _ => es.length - (intOf i).toNat)
    case atStart => exact ⟨0, n - es.length, Nat.zero_le _, rfl, rfl, Below.refl _ _, by omega, by omega, Lib.hid (fun j _ h => by omega)⟩
    case round =>
      obtain ⟨k, x, hk, rfl, rfl, hB, hx0, hx1, HJ⟩ := hrel
      by_cases hlt : k < es.length
      · obtain ⟨a', cap', hv, _, _, hc⟩ := (HI.out.below hB).raw
        cases hv
        obtain ⟨b, off, rfl, hb, hr⟩ := hc k hlt
        obtain ⟨c0, c1, c2, c3, s0⟩ := hr k hlt
        skip
        have HC := Lib.hid (fun w => szDOp_any es[k].k es[k].nm es[k].tn es[k].da x w s0.1 s0.2.1 s0.2.2 hx0 (by omega))
        obtain ⟨Q, hQ⟩ : ∃ x, x = es[k].k := ⟨_, rfl⟩
        obtain ⟨S, hS⟩ : ∃ x, x = es[k].nm := ⟨_, rfl⟩
        obtain ⟨T, hT⟩ : ∃ x, x = es[k].tn := ⟨_, rfl⟩
        obtain ⟨U, hU⟩ : ∃ x, x = es[k].da := ⟨_, rfl⟩
        rw [← hQ] at c0 HC
        rw [← hS] at c1 HC
        rw [← hT] at c2 HC
        rw [← hU] at c3 HC
        have HD0 := Lib.hid hU
        clear hr hc hQ hS hT hU
        go_wp2_with fail
        refine (HC.out _).mono ?_
        rintro e w1 ⟨y, rfl, hy0, hy1, hy2, hb1⟩
        have hB1 := hB.trans (hb1.mono hB.size)
        clear hb1 hB HC c0 c1 c2 c3
        by_cases hy : y < 0
        · go_wp2
          go_ret
          exact ⟨-1, rfl, by omega, by omega, hB1⟩
        · have hy3 := hy2 (by omega)
          have HJ' : Hid (∀ j (hj : j < es.length), j < k + 1 → (es[j].da.size : Int) ≤ n) := Lib.hid (fun j hj hjk => by
            by_cases e : j = k
            · subst e; rw [← HD0.out]; omega
            · exact HJ.out j hj (by omega))
          go_wp2
          go_roundw
          case rel => exact ⟨k + 1, y, by omega, by go_num, rfl, hB1, by omega, by omega, HJ'⟩
          case measure => simp [intOf]; omega
      · skip
        go_wp2
        go_ret
        exact ⟨x, rfl, by omega, fun _ => ⟨hx1, by omega, fun j hj => HJ.out j hj (by omega)⟩, hB⟩

set_option maxRecDepth 100000 in
set_option maxHeartbeats 1600000 in
theorem toDOpS_any (v : Value) (es : List DOp) (w : World) (h : OaAt w w.heap.size v es) (hn : es.length ≤ 1048576) :
    Calls Try.prog 74 #[v] w (OutR 68 4 doC es w) := by
  have HI := Lib.hid h
  obtain ⟨a, cap, rfl, hl, hm, _⟩ := h.raw
  unfold maxLen at hm
  clear h
  go_enter Try.func74, Try.ntmps74
  go_wp2_with (at_make; refine wpList_fullR (z := doZ) doC_len (by decide) Try.underlying62 Try.infoDOp rfl (by decide) rfl _ _ rfl w.heap.size .i64 .i64 es.length rfl rfl (by omega) (Nat.le_refl _) ?_; intro w0 hown0 hb0)
  go_loopw [4] (fun i wr => ∃ k : Nat, k ≤ es.length ∧ i = .int .i64 k ∧ OwnR 68 4 doC wr w.heap.size (.slice (some ⟨w.heap.size, 0, none⟩) es.length es.length) (es.take k ++ List.replicate (es.length - k) doZ) ∧ Below w.heap.size w wr)
    (fun i _ => es.length - (intOf i).toNat)
  case atStart => exact ⟨0, Nat.zero_le _, rfl, by simpa using hown0, hb0⟩
  case round =>
    obtain ⟨k, hk, rfl, hown, hbel⟩ := hrel
    clear hown0 hb0
    by_cases hlt : k < es.length
    · obtain ⟨a', cap', hv, _, _, hc⟩ := (HI.out.below hbel).raw
      cases hv
      obtain ⟨b, off, rfl, hb, hr⟩ := hc k hlt
      obtain ⟨c0, c1, c2, c3, s0⟩ := hr k hlt
      have HC := Lib.hid (fun w => toDOp_any es[k].k es[k].nm es[k].tn es[k].da w)
      have HP : Hid (∀ w', OwnR 68 4 doC w' w.heap.size (.slice (some ⟨w.heap.size, 0, none⟩) es.length es.length) (es.take k ++ List.replicate (es.length - k) doZ) → OwnR 68 4 doC (putRow w.heap.size (k * 4) (doC es[k]) w') w.heap.size (.slice (some ⟨w.heap.size, 0, none⟩) es.length es.length) (es.take (k + 1) ++ List.replicate (es.length - (k + 1)) doZ)) := Lib.hid (fun w' h => by
        rw [← set_copyR es doZ k hlt]
        exact h.put doC_len (by simp; omega) k es[k] (by simp; omega))
      have HQ : Hid (∀ w', Below w.heap.size w w' → Below w.heap.size w (putRow w.heap.size (k * 4) (doC es[k]) w')) := Lib.hid (fun w' h => putRow_below (Nat.le_refl _) _ _ _ _ h)
      unfold doC at HP HQ
      simp only [putRow] at HP HQ
      obtain ⟨Q, hQ⟩ : ∃ x, x = es[k].k := ⟨_, rfl⟩
      obtain ⟨S, hS⟩ : ∃ x, x = es[k].nm := ⟨_, rfl⟩
      obtain ⟨T, hT⟩ : ∃ x, x = es[k].tn := ⟨_, rfl⟩
      obtain ⟨U, hU⟩ : ∃ x, x = es[k].da := ⟨_, rfl⟩
      rw [← hQ] at c0 HC HP HQ
      rw [← hS] at c1 HC HP HQ
      rw [← hT] at c2 HC HP HQ
      rw [← hU] at c3 HC HP HQ
      have HOw := Lib.hid hown
      clear hr hc hown hQ hS hT hU
      go_wp2_with fail
      refine (HC.out _).mono ?_
      rintro e w1 ⟨rfl, hb1⟩
      have hown1 := HOw.out.keep hb1 (Nat.le_refl _)
      have hbel1 := hbel.trans (hb1.mono hbel.size)
      have hfr : ∀ j, w1.frozen? ⟨w.heap.size, j, none⟩ = false := fun j => hown1.free (by simp; omega) j
      obtain ⟨x0, d0⟩ := hown1.cell doC_len (by simp; omega) k 0 hlt (by decide)
      obtain ⟨x1, d1⟩ := hown1.cell doC_len (by simp; omega) k 1 hlt (by decide)
      obtain ⟨x2, d2⟩ := hown1.cell doC_len (by simp; omega) k 2 hlt (by decide)
      obtain ⟨x3, d3⟩ := hown1.cell doC_len (by simp; omega) k 3 hlt (by decide)
      rw [Nat.add_zero] at d0
      have HO1 := Lib.hid hown1
      clear hown1 HOw hb1 hbel c0 c1 c2 c3
      go_wp2
      refine ⟨⟨k + 1, by omega, by simp, HP.out _ HO1.out, HQ.out _ hbel1⟩, ?_⟩
      simp [intOf]; omega
    · go_wp2
      go_ret
      have : k = es.length := by omega
      subst this
      simp only [List.take_length, Nat.sub_self, List.replicate_zero, List.append_nil] at hown
      exact ⟨_, rfl, hown, hbel⟩

set_option maxRecDepth 100000 in
set_option maxHeartbeats 1600000 in
theorem eqDOpS_same (v v' : Value) (es : List DOp) (w : World) (h : OaAt w w.heap.size v es) (h' : OaAt w w.heap.size v' es) :
    Calls Try.prog 79 #[v, v'] w fun e w' => e = .returned (.bool true) ∧ Below w.heap.size w w' := by
  have HI := Lib.hid h
  have HJ := Lib.hid h'
  obtain ⟨a, cap, rfl, hl, hm, _⟩ := h.raw
  obtain ⟨a2, cap2, rfl, hl2, hm2, _⟩ := h'.raw
  unfold maxLen at hm hm2
  clear h h'
  go_enter Try.func79, Try.ntmps79
  go_wp2
  go_loopw [5] (fun i wr => ∃ k : Nat, k ≤ es.length ∧ i = .int .i64 k ∧ Below w.heap.size w wr) (fun i _ => es.length - (intOf i).toNat)
  case atStart => exact ⟨0, Nat.zero_le _, rfl, Below.refl _ _⟩
  case round =>
    obtain ⟨k, hk, rfl, hbel⟩ := hrel
    by_cases hlt : k < es.length
    · obtain ⟨a', cap', hv, _, _, hc⟩ := (HI.out.below hbel).raw
      cases hv
      obtain ⟨b, off, rfl, hb, hr⟩ := hc k hlt
      obtain ⟨c0, c1, c2, c3, s0⟩ := hr k hlt
      obtain ⟨a', cap', hv, _, _, hc'⟩ := (HJ.out.below hbel).raw
      cases hv
      obtain ⟨b2, off2, rfl, hb2, hr2⟩ := hc' k hlt
      obtain ⟨g0, g1, g2, g3, _⟩ := hr2 k hlt
      have HC := Lib.hid (fun w => eqDOp_same es[k].k es[k].nm es[k].tn es[k].da w)
      obtain ⟨Q, hQ⟩ : ∃ x, x = es[k].k := ⟨_, rfl⟩
      obtain ⟨S, hS⟩ : ∃ x, x = es[k].nm := ⟨_, rfl⟩
      obtain ⟨T, hT⟩ : ∃ x, x = es[k].tn := ⟨_, rfl⟩
      obtain ⟨U, hU⟩ : ∃ x, x = es[k].da := ⟨_, rfl⟩
      rw [← hQ] at c0 g0 HC
      rw [← hS] at c1 g1 HC
      rw [← hT] at c2 g2 HC
      rw [← hU] at c3 g3 HC
      clear hr hc hr2 hc' hQ hS hT hU
      go_wp2
      refine wp_region_T (fun w' => (w'.cell? ⟨b, off + k * 4, none⟩ = some (.int .i64 Q) ∧ w'.cell? ⟨b, off + k * 4 + 1, none⟩ = some (.string S) ∧ w'.cell? ⟨b, off + k * 4 + 2, none⟩ = some (.string T) ∧ w'.cell? ⟨b, off + k * 4 + 3, none⟩ = some (.string U)) ∧ w'.cell? ⟨b2, off2 + k * 4, none⟩ = some (.int .i64 Q) ∧ w'.cell? ⟨b2, off2 + k * 4 + 1, none⟩ = some (.string S) ∧ w'.cell? ⟨b2, off2 + k * 4 + 2, none⟩ = some (.string T) ∧ w'.cell? ⟨b2, off2 + k * 4 + 3, none⟩ = some (.string U)) (fun _ => True) 9 (by kernel_rfl) 10 rfl ?_
      refine wpAnyT_takesA (md := .any) 2 (by kernel_rfl) (by intro d v c a w h; cases d <;> exact h) [0, 1, 2, 3, 4, 5, 6, 7] _ _ _ (by decide) (by kernel_rfl) ⟨⟨⟨c0, c1, c2, c3⟩, g0, g1, g2, g3⟩, fun _ => trivial⟩ ?_
      simp only [pick, List.filterMap_cons, List.filterMap_nil, List.getElem?_cons_zero, List.getElem?_cons_succ]
      refine wpIf_step (.slice (some ⟨b, off, none⟩) es.length cap) (by kernel_rfl) (fun w hw => by go_simp) ?_
      refine wpIf_step (.int .i64 (k : Int)) (by kernel_rfl) (fun w hw => by go_simp) ?_
      refine wpIf_step (.pointer (some ⟨b, off + k * 4, none⟩)) (by kernel_rfl) (fun w hw => by go_simp) ?_
      refine wpIf_step (.agg #[.int .i64 Q, .string S, .string T, .string U]) (by kernel_rfl) (fun w hw => by obtain ⟨⟨e0, e1, e2, e3⟩, _⟩ := hw; go_simp) ?_
      refine wpIf_step (.slice (some ⟨b2, off2, none⟩) es.length cap2) (by kernel_rfl) (fun w hw => by go_simp) ?_
      refine wpIf_step (.int .i64 (k : Int)) (by kernel_rfl) (fun w hw => by go_simp) ?_
      refine wpIf_step (.pointer (some ⟨b2, off2 + k * 4, none⟩)) (by kernel_rfl) (fun w hw => by go_simp) ?_
      refine wpIf_step (.agg #[.int .i64 Q, .string S, .string T, .string U]) (by kernel_rfl) (fun w hw => by obtain ⟨_, e0, e1, e2, e3⟩ := hw; go_simp) ?_
      refine wpIf_nil (fun hS => ?_)
      refine wpAnyT_one 8 1 (by kernel_rfl) rfl (by kernel_rfl) (fun K hK => ?_)
      go_simp
      refine (HC.out _).mono ?_
      rintro e w1 ⟨rfl, hb1⟩
      have hbel1 := hbel.drew.trans (hb1.mono hbel.size)
      have hbl : b < wr.drew.heap.size := by have := hbel.size; show b < wr.heap.size; omega
      have hbl2 : b2 < wr.drew.heap.size := by have := hbel.size; show b2 < wr.heap.size; omega
      have hkc : ∀ b o x, b < wr.drew.heap.size → wr.drew.cell? ⟨b, o, none⟩ = some x → w1.cell? ⟨b, o, none⟩ = some x := fun b o x hb hx => by rw [hb1.cell (p := ⟨b, o, none⟩) hb]; exact hx
      refine hK _ _ ⟨⟨⟨hkc _ _ _ hbl c0, hkc _ _ _ hbl c1, hkc _ _ _ hbl c2, hkc _ _ _ hbl c3⟩, hkc _ _ _ hbl2 g0, hkc _ _ _ hbl2 g1, hkc _ _ _ hbl2 g2, hkc _ _ _ hbl2 g3⟩, fun _ => trivial⟩ (fun hS3 => ?_)
      clear hK K hS hb1 hbel c0 c1 c2 c3 g0 g1 g2 g3 hkc hbl hbl2
      refine wpAnyT_one 9 0 (by kernel_rfl) rfl (by kernel_rfl) (fun K hK => ?_)
      go_simp
      refine hK _ _ ⟨hS3.1, fun _ => trivial⟩ (fun hS4 => ?_)
      clear hK K hS3
      refine wpAnyT_over (by kernel_rfl) ?_
      go_wp2
      go_roundw
      case rel => exact ⟨k + 1, by omega, by go_num, hbel1⟩
      case measure => simp [intOf]; omega
    · go_wp2
      go_ret
      exact ⟨rfl, hbel⟩

end Go.Proofs.Ytffkakpbelknaaa
