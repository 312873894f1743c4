package tests

import (
	"math"
	"slices"
	"testing"

	"loop.example/g00977/impl"
)

func TestPartitionOk(t *testing.T) {
	g := impl.Geometry{Groups: 2, Banks: 2, Rows: 4, Cols: 2}
	cases := []struct {
		owner []int
		want  bool
	}{
		{[]int{0, 1, 0, 1}, true}, {[]int{0, 1, 2, 3}, true}, {[]int{3, 3, 3, 3}, true}, {[]int{0, 0, 0, 0}, true},
		{nil, false}, {[]int{}, false}, {[]int{0}, false}, {[]int{0, 1, 0}, false}, {[]int{0, 1, 0, 1, 0}, false},
		{[]int{-1, 1, 0, 1}, false}, {[]int{0, 1, 0, -1}, false}, {[]int{0, 4, 0, 1}, false}, {[]int{0, 1, 0, 4}, false},
	}
	for _, c := range cases {
		p := impl.Partition{Owner: c.owner}
		if got := impl.PartitionOk(g, p); got != c.want {
			t.Errorf("PartitionOk(%+v, %+v) = %v, want %v", g, p, got, c.want)
		}
	}
	if impl.MaxTenants != 4 {
		t.Errorf("MaxTenants = %d, want 4", impl.MaxTenants)
	}
}

func TestPartitionOkOfEveryGeometry(t *testing.T) {
	for _, g := range allGeometries() {
		for _, p := range somePartitions(g) {
			if !impl.PartitionOk(g, p) {
				t.Errorf("PartitionOk(%+v, %+v) = false", g, p)
			}
		}
		for _, p := range noPartitions(g) {
			if impl.PartitionOk(g, p) {
				t.Errorf("PartitionOk(%+v, %+v) = true", g, p)
			}
		}
	}
	for _, g := range noGeometries() {
		for _, p := range partitionsOfAnySize() {
			if impl.PartitionOk(g, p) {
				t.Errorf("PartitionOk(%+v, %+v) = true", g, p)
			}
		}
	}
}

func TestBanksOf(t *testing.T) {
	cases := []struct {
		owner  []int
		tenant int
		want   []int
	}{
		{[]int{0, 1, 0, 1}, 0, []int{0, 2}}, {[]int{0, 1, 0, 1}, 1, []int{1, 3}}, {[]int{0, 1, 0, 1}, 2, nil},
		{[]int{0, 1, 0, 1}, 3, nil}, {[]int{0, 1, 0, 1}, 4, nil}, {[]int{0, 1, 0, 1}, -1, nil},
		{[]int{3, 3, 3, 3, 3, 3, 3, 3}, 3, []int{0, 1, 2, 3, 4, 5, 6, 7}}, {[]int{3, 3, 3, 3, 3, 3, 3, 3}, 0, nil},
		{[]int{2, 0, 1, 3, 1, 0, 2, 2}, 2, []int{0, 6, 7}}, {[]int{2, 0, 1, 3, 1, 0, 2, 2}, 3, []int{3}},
		{[]int{0}, 0, []int{0}}, {nil, 0, nil}, {[]int{}, 0, nil}, {nil, -1, nil}, {nil, 4, nil},
		// BanksOf asks for no valid partition and no valid tenant.
		{[]int{-1, 4, -1}, -1, []int{0, 2}}, {[]int{-1, 4, -1}, 4, []int{1}}, {[]int{-1, 4, -1}, 0, nil},
		{[]int{math.MaxInt, math.MinInt, 0, math.MaxInt}, math.MaxInt, []int{0, 3}},
		{[]int{math.MaxInt, math.MinInt, 0, math.MaxInt}, math.MinInt, []int{1}},
		{[]int{0, 0, 0, 0, 1, 0, 0, 0, 0, 1, 0}, 1, []int{4, 9}},
		{[]int{1 << 32, 0}, 0, []int{1}}, {[]int{0, 1}, 1 << 32, nil}, {[]int{0, 1}, math.MinInt, nil}, {[]int{0, 1}, math.MaxInt, nil},
	}
	for _, c := range cases {
		p := impl.Partition{Owner: c.owner}
		if got := impl.BanksOf(p, c.tenant); !slices.Equal(got, c.want) {
			t.Errorf("BanksOf(%+v, %d) = %v, want %v", p, c.tenant, got, c.want)
		}
	}
}

// Taken together, the banks of all tenants are all banks, each one once.
func TestBanksOfAllTenants(t *testing.T) {
	for _, count := range []int{1, 2, 3, 4, 6} {
		for _, p := range allPartitions(count) {
			owner := make([]int, count)
			found := 0
			for tenant := range impl.MaxTenants {
				banks := impl.BanksOf(p, tenant)
				if !slices.IsSorted(banks) {
					t.Fatalf("BanksOf(%+v, %d) = %v, which is not in order", p, tenant, banks)
				}
				for _, bank := range banks {
					owner[bank] = tenant
				}
				found += len(banks)
			}
			if found != count || !slices.Equal(owner, p.Owner) {
				t.Fatalf("%+v: the tenants have %d banks, of the owners %v", p, found, owner)
			}
			expectNoBanksOf(t, p, -1)
			expectNoBanksOf(t, p, impl.MaxTenants)
		}
	}
}

func TestBanksOfResultIsNew(t *testing.T) {
	backing := []int{1, 1, 1, 1, 7, 7}
	p := impl.Partition{Owner: backing[:4]}
	first := impl.BanksOf(p, 1)
	for i := range first {
		first[i] = 9
	}
	first = append(first, 9, 9)
	if got := impl.BanksOf(p, 1); !slices.Equal(got, []int{0, 1, 2, 3}) {
		t.Errorf("BanksOf(%+v, 1) = %v after a change of an earlier result", p, got)
	}
	if !slices.Equal(backing, []int{1, 1, 1, 1, 7, 7}) {
		t.Errorf("BanksOf changed its argument, or a change of its result %v did: %v", first, backing)
	}
}

func TestPartitionIsNotChanged(t *testing.T) {
	g := impl.Geometry{Groups: 2, Banks: 2, Rows: 4, Cols: 2}
	backing := []int{2, 0, 3, 0, 7, 7}
	p := impl.Partition{Owner: backing[:4]}
	impl.PartitionOk(g, p)
	impl.BanksOf(p, 0)
	impl.TenantLines(g, p, 0)
	impl.TenantAddr(g, p, 0, 3)
	impl.TenantLine(g, p, impl.Addr{Bank: 1})
	if !slices.Equal(backing, []int{2, 0, 3, 0, 7, 7}) {
		t.Errorf("the owners are %v after the calls", backing)
	}
}

func TestTenantLines(t *testing.T) {
	g := impl.Geometry{Groups: 2, Banks: 2, Rows: 4, Cols: 2}
	p := impl.Partition{Owner: []int{0, 3, 0, 0}}
	cases := []struct{ tenant, want int }{
		{0, 24}, {1, 0}, {2, 0}, {3, 8}, {-1, 0}, {4, 0}, {math.MinInt, 0}, {math.MaxInt, 0},
	}
	for _, c := range cases {
		if got := impl.TenantLines(g, p, c.tenant); got != c.want {
			t.Errorf("TenantLines(%+v, %+v, %d) = %d, want %d", g, p, c.tenant, got, c.want)
		}
	}
}

func TestTenantAddrAndTenantLine(t *testing.T) {
	g := impl.Geometry{Groups: 2, Banks: 3, Rows: 3, Cols: 2}
	p := impl.Partition{Owner: []int{1, 0, 3, 0, 0, 3}}
	cases := []struct{ tenant, line, bank, row, col int }{
		{0, 0, 1, 0, 0}, {0, 1, 3, 0, 0}, {0, 2, 4, 0, 0}, {0, 3, 1, 0, 1}, {0, 5, 4, 0, 1}, {0, 6, 1, 1, 0},
		{0, 10, 3, 1, 1}, {0, 13, 3, 2, 0}, {0, 17, 4, 2, 1},
		{1, 0, 0, 0, 0}, {1, 1, 0, 0, 1}, {1, 2, 0, 1, 0}, {1, 5, 0, 2, 1},
		{3, 0, 2, 0, 0}, {3, 1, 5, 0, 0}, {3, 2, 2, 0, 1}, {3, 7, 5, 1, 1}, {3, 11, 5, 2, 1},
	}
	for _, c := range cases {
		expectTenantLine(t, g, p, c.tenant, c.line, impl.Addr{Bank: c.bank, Row: c.row, Col: c.col})
	}
	for _, tenant := range []int{-1, 2, impl.MaxTenants} {
		expectNoTenantAddr(t, g, p, tenant, 0)
	}
}

// The bank of a tenant's lines counts fastest, then the column, then the row,
// in every geometry.
func TestTenantAddrCountsThroughItsBanks(t *testing.T) {
	for _, g := range allGeometries() {
		for _, p := range somePartitions(g) {
			expectTenants(t, g, p)
		}
		if t.Failed() {
			return
		}
	}
}

func TestTenantAddrOfEveryPartition(t *testing.T) {
	geometries := []impl.Geometry{
		{Groups: 1, Banks: 1, Rows: 2, Cols: 1}, {Groups: 2, Banks: 1, Rows: 3, Cols: 2}, {Groups: 1, Banks: 2, Rows: 5, Cols: 8},
		{Groups: 1, Banks: 3, Rows: 3, Cols: 3}, {Groups: 2, Banks: 2, Rows: 4, Cols: 2}, {Groups: 1, Banks: 4, Rows: 2, Cols: 5},
		{Groups: 2, Banks: 3, Rows: 2, Cols: 1},
	}
	for _, g := range geometries {
		for _, p := range allPartitions(g.Groups * g.Banks) {
			expectTenants(t, g, p)
		}
		if t.Failed() {
			return
		}
	}
}

// No bank is met by two tenants, and all lines are met.
func TestTenantsHaveDifferentBanks(t *testing.T) {
	for _, g := range allGeometries() {
		for _, p := range somePartitions(g) {
			ownerOf := map[int]int{}
			found := map[impl.Addr]bool{}
			for tenant := range impl.MaxTenants {
				for line := range impl.TenantLines(g, p, tenant) {
					a, _ := impl.TenantAddr(g, p, tenant, line)
					owner, met := ownerOf[a.Bank]
					if met && owner != tenant {
						t.Fatalf("%+v, %+v: bank %d has lines of the tenants %d and %d", g, p, a.Bank, owner, tenant)
					}
					ownerOf[a.Bank] = tenant
					found[a] = true
				}
			}
			if len(found) != impl.LineCount(g) {
				t.Fatalf("%+v, %+v: the tenants have %d lines, want %d", g, p, len(found), impl.LineCount(g))
			}
		}
	}
}

func TestTenantWithoutBanks(t *testing.T) {
	for _, g := range allGeometries() {
		p := impl.Partition{Owner: make([]int, g.Groups*g.Banks)}
		for tenant := 1; tenant < impl.MaxTenants; tenant++ {
			expectNoBanksOf(t, p, tenant)
			if got := impl.TenantLines(g, p, tenant); got != 0 {
				t.Errorf("TenantLines(%+v, %+v, %d) = %d, want 0", g, p, tenant, got)
			}
			for _, line := range []int{-1, 0, 1, math.MinInt, math.MaxInt} {
				expectNoTenantAddr(t, g, p, tenant, line)
			}
		}
	}
}

// A tenant that has every bank has its lines as the mapping of order 1 has them.
func TestTenantWithEveryBank(t *testing.T) {
	for _, g := range allGeometries() {
		for tenant := range impl.MaxTenants {
			p := impl.Partition{Owner: slices.Repeat([]int{tenant}, g.Groups*g.Banks)}
			if got := impl.TenantLines(g, p, tenant); got != impl.LineCount(g) {
				t.Errorf("TenantLines(%+v, %+v, %d) = %d, want %d", g, p, tenant, got, impl.LineCount(g))
			}
			for line := range impl.LineCount(g) {
				a, _ := impl.MapLine(g, impl.Mapping{Order: 1}, line)
				expectTenantLine(t, g, p, tenant, line, a)
			}
		}
		if t.Failed() {
			return
		}
	}
}

func TestTenantAddrNoLine(t *testing.T) {
	for _, g := range allGeometries() {
		for _, p := range somePartitions(g) {
			for tenant := range impl.MaxTenants {
				lines := impl.TenantLines(g, p, tenant)
				for _, line := range []int{-1, -2, -lines - 1, lines, lines + 1, 1 << 32, math.MinInt, math.MaxInt} {
					expectNoTenantAddr(t, g, p, tenant, line)
				}
			}
		}
	}
}

func TestNoTenant(t *testing.T) {
	for _, g := range allGeometries() {
		for _, p := range somePartitions(g) {
			for _, tenant := range []int{-1, -2, impl.MaxTenants, impl.MaxTenants + 1, 1 << 32, math.MinInt, math.MaxInt} {
				expectNoTenant(t, g, p, tenant)
			}
		}
	}
}

func TestTenantLineNoAddress(t *testing.T) {
	for _, g := range allGeometries() {
		for _, p := range somePartitions(g) {
			for _, a := range addrsOutside(g) {
				expectNoTenantLine(t, g, p, a)
			}
		}
	}
}

func TestTenantsOfInvalidPartition(t *testing.T) {
	for _, g := range allGeometries() {
		for _, p := range noPartitions(g) {
			expectNoTenants(t, g, p)
			for _, a := range addrsOutside(g) {
				expectNoTenantLine(t, g, p, a)
			}
		}
	}
}

func TestTenantsOfInvalidGeometry(t *testing.T) {
	for _, g := range noGeometries() {
		for _, p := range partitionsOfAnySize() {
			expectNoTenants(t, g, p)
		}
	}
}

// expectTenants takes the addresses in the order in which a tenant with every
// bank has them; each tenant has those in its banks in the same order.
func expectTenants(t *testing.T, g impl.Geometry, p impl.Partition) {
	t.Helper()
	lines := [impl.MaxTenants]int{}
	for _, a := range addrsInOrder(g, 1) {
		tenant := p.Owner[a.Bank]
		expectTenantLine(t, g, p, tenant, lines[tenant], a)
		lines[tenant]++
	}
	for tenant, want := range lines {
		if got := impl.TenantLines(g, p, tenant); got != want {
			t.Errorf("TenantLines(%+v, %+v, %d) = %d, want %d", g, p, tenant, got, want)
		}
		expectNoTenantAddr(t, g, p, tenant, want)
		expectNoTenantAddr(t, g, p, tenant, -1)
	}
}

func expectTenantLine(t *testing.T, g impl.Geometry, p impl.Partition, tenant int, line int, a impl.Addr) {
	t.Helper()
	if got, ok := impl.TenantAddr(g, p, tenant, line); got != a || !ok {
		t.Errorf("TenantAddr(%+v, %+v, %d, %d) = %+v, %v, want %+v, true", g, p, tenant, line, got, ok, a)
	}
	if u, n, ok := impl.TenantLine(g, p, a); u != tenant || n != line || !ok {
		t.Errorf("TenantLine(%+v, %+v, %+v) = %d, %d, %v, want %d, %d, true", g, p, a, u, n, ok, tenant, line)
	}
}

func expectNoBanksOf(t *testing.T, p impl.Partition, tenant int) {
	t.Helper()
	if got := impl.BanksOf(p, tenant); len(got) != 0 {
		t.Errorf("BanksOf(%+v, %d) = %v, want none", p, tenant, got)
	}
}

func expectNoTenantAddr(t *testing.T, g impl.Geometry, p impl.Partition, tenant int, line int) {
	t.Helper()
	if got, ok := impl.TenantAddr(g, p, tenant, line); got != (impl.Addr{}) || ok {
		t.Errorf("TenantAddr(%+v, %+v, %d, %d) = %+v, %v, want none", g, p, tenant, line, got, ok)
	}
}

func expectNoTenantLine(t *testing.T, g impl.Geometry, p impl.Partition, a impl.Addr) {
	t.Helper()
	if u, n, ok := impl.TenantLine(g, p, a); u != 0 || n != 0 || ok {
		t.Errorf("TenantLine(%+v, %+v, %+v) = %d, %d, %v, want none", g, p, a, u, n, ok)
	}
}

func expectNoTenant(t *testing.T, g impl.Geometry, p impl.Partition, tenant int) {
	t.Helper()
	if got := impl.TenantLines(g, p, tenant); got != 0 {
		t.Errorf("TenantLines(%+v, %+v, %d) = %d, want 0", g, p, tenant, got)
	}
	for _, line := range []int{math.MinInt, -1, 0, 1, math.MaxInt} {
		expectNoTenantAddr(t, g, p, tenant, line)
	}
}

func expectNoTenants(t *testing.T, g impl.Geometry, p impl.Partition) {
	t.Helper()
	for _, tenant := range []int{math.MinInt, -1, 0, 1, impl.MaxTenants - 1, impl.MaxTenants, math.MaxInt} {
		expectNoTenant(t, g, p, tenant)
	}
	for _, a := range []impl.Addr{{}, {Bank: 1}, {Bank: -1}, {Bank: math.MaxInt, Row: math.MinInt, Col: math.MaxInt}} {
		expectNoTenantLine(t, g, p, a)
	}
}

// allPartitions returns every valid partition of the given number of banks.
func allPartitions(banks int) []impl.Partition {
	if banks == 0 {
		return []impl.Partition{{}}
	}
	partitions := []impl.Partition{}
	for _, p := range allPartitions(banks - 1) {
		for tenant := range impl.MaxTenants {
			partitions = append(partitions, impl.Partition{Owner: append(slices.Clone(p.Owner), tenant)})
		}
	}
	return partitions
}

// somePartitions returns partitions of g in which a tenant has no bank, one
// bank, banks side by side, scattered banks or every bank.
func somePartitions(g impl.Geometry) []impl.Partition {
	partitions := []impl.Partition{}
	for _, owner := range [][]int{
		{0, 0, 0, 0, 0, 0, 0, 0}, {3, 3, 3, 3, 3, 3, 3, 3}, {0, 1, 2, 3, 0, 1, 2, 3}, {1, 1, 3, 3, 1, 1, 3, 3},
		{2, 0, 0, 1, 0, 2, 0, 2}, {3, 2, 2, 2, 2, 2, 2, 0},
	} {
		partitions = append(partitions, impl.Partition{Owner: owner[:g.Groups*g.Banks]})
	}
	return partitions
}

// noPartitions returns owners of which there is one too few or too many, or of
// which one, at each place, is no tenant.
func noPartitions(g impl.Geometry) []impl.Partition {
	count := g.Groups * g.Banks
	partitions := []impl.Partition{
		{}, {Owner: []int{}}, {Owner: make([]int, count-1)}, {Owner: make([]int, count+1)}, {Owner: make([]int, 1000)},
	}
	for bank := range count {
		for _, owner := range []int{math.MinInt, -1, impl.MaxTenants, 1 << 32, math.MaxInt} {
			p := impl.Partition{Owner: make([]int, count)}
			p.Owner[bank] = owner
			partitions = append(partitions, p)
		}
	}
	return partitions
}

// partitionsOfAnySize holds one partition for each number of banks that a
// geometry has, or would have without its limits.
func partitionsOfAnySize() []impl.Partition {
	partitions := []impl.Partition{{}, {Owner: []int{}}, {Owner: []int{-1}}}
	for count := range 40 {
		partitions = append(partitions, impl.Partition{Owner: make([]int, count)})
	}
	return partitions
}
